import Derived.Test.YtennkhdhnbdbeaaGreatSk8
import Derived.Test.YtennkhdhnbdbeaaGreatSk4G
import Derived.Deep.RegionHeld3
namespace Go.Proofs.YtennkhdhnbdbeaaGreat.Nm
set_option linter.unusedVariables false

/-- a right key -/
def RK (f m e s : Int) : Prop := FlagOK f ∧ (6 ≤ m ∧ m ≤ 2147483647) ∧ (1 ≤ e ∧ e ≤ 2147483647) ∧ (1 ≤ s ∧ s ≤ 2147483647)
def rkB (f m e s : Int) : Bool := decide ((f = 256 ∨ f = 257) ∧ (6 ≤ m ∧ m ≤ 2147483647) ∧ (1 ≤ e ∧ e ≤ 2147483647) ∧ (1 ≤ s ∧ s ≤ 2147483647))
theorem rkB_yes {f m e s : Int} (h : RK f m e s) : rkB f m e s = true := decide_eq_true h
theorem rkB_no {f m e s : Int} (h : ¬ RK f m e s) : rkB f m e s = false := decide_eq_false h
theorem rkB_eq (f m e s : Int) : rkB f m e s = (flB f && decide (6 ≤ m) && nmB m && nmB e && nmB s) := by
  by_cases h : RK f m e s
  · rw [rkB_yes h]
    obtain ⟨h1, h2, h3, h4⟩ := h
    rw [flB_yes h1, nmB_yes ⟨by omega, h2.2⟩, nmB_yes h3, nmB_yes h4, decide_eq_true h2.1]; rfl
  · rw [rkB_no h]
    symm
    apply Bool.eq_false_iff.2
    intro hh
    simp only [Bool.and_eq_true, decide_eq_true_eq] at hh
    obtain ⟨⟨⟨⟨h1, h2⟩, h3⟩, h4⟩, h5⟩ := hh
    exact h ⟨(show f = 256 ∨ f = 257 from of_decide_eq_true h1), ⟨h2, (of_decide_eq_true h3).2⟩, of_decide_eq_true h4, of_decide_eq_true h5⟩
theorem rk_f1 {f m e s : Int} (h : flB f = false) : rkB f m e s = false := by rw [rkB_eq, h]; rfl
theorem rk_f2 {f m e s : Int} (h : ¬ 6 ≤ m) : rkB f m e s = false := by rw [rkB_eq, decide_eq_false h]; simp
theorem rk_f3 {f m e s : Int} (h : nmB m = false) : rkB f m e s = false := by rw [rkB_eq, h]; simp
theorem rk_f4 {f m e s : Int} (h : nmB e = false) : rkB f m e s = false := by rw [rkB_eq, h]; simp
theorem rk_f5 {f m e s : Int} (h : nmB s = false) : rkB f m e s = false := by rw [rkB_eq, h]; simp
theorem rk_t {f m e s : Int} (h1 : flB f = true) (h2 : 6 ≤ m) (h3 : nmB m = true) (h4 : nmB e = true) (h5 : nmB s = true) : rkB f m e s = true := by rw [rkB_eq, h1, h3, h4, h5, decide_eq_true h2]; rfl
/-- what is told of a right key -/
def pubN (f m e : Nat) : ByteArray := nB f 2 ++ bts [3] ++ bts [253] ++ nB m 4 ++ nB e 4
theorem pubN_size (f m e : Nat) : (pubN f m e).size = 12 := by unfold pubN; simp [ByteArray.size_append, nB_size, bts_size]
def pubB (f m e s : Int) : ByteArray := bif rkB f m e s then pubN f.toNat m.toNat e.toNat else ⟨#[]⟩
end Go.Proofs.YtennkhdhnbdbeaaGreat.Nm
namespace Go.Proofs.YtennkhdhnbdbeaaGreat
set_option linter.unusedVariables false
open Go.RowKit Go.Shelf Go.Proofs.YtennkhdhnbdbeaaGreat.Nm

theorem below_one (w : World) (o : Obj) : Below w.heap.size w (w.alloc o) := (Below.refl _ _).alloc (Nat.le_refl _) _

set_option maxRecDepth 100000 in
set_option maxHeartbeats 1000000 in
/-- seal.isRight -/
theorem isRight_any (f m e s : Int) (w : World) :
    Calls Tryz.prog 20 #[.agg #[.int .i64 f, .int .i64 m, .int .i64 e, .int .i64 s]] w fun r w' => r = .returned (.bool (rkB f m e s)) ∧ Below w.heap.size w w' := by
  have T1 : Hid True := trivial
  cases h1 : flB f with
  | false =>
    have HF := hide' h1
    rw [rk_f1 h1]
    go_enter Tryz.func20, Tryz.ntmps20
    go_wp2_with (go_at_call 57; refine (isFlags_any _ _).mono ?_; rw [HF.out]; rintro r w1 ⟨rfl, rfl⟩)
    go_ret
    exact ⟨rfl, below_one w _⟩
  | true =>
    have HF := hide' h1
    by_cases h2 : 6 ≤ m
    · cases h3 : nmB m with
      | false =>
        have HM := hide' h3
        rw [rk_f3 h3]
        go_enter Tryz.func20, Tryz.ntmps20
        go_wp2_with (first
          | (go_at_call 57; refine (isFlags_any _ _).mono ?_; rw [HF.out]; rintro r w1 ⟨rfl, rfl⟩)
          | (go_at_call 62; refine (isNumber_any m _).mono ?_; rw [HM.out]; rintro r w1 ⟨rfl, rfl⟩))
        go_ret
        exact ⟨rfl, below_one w _⟩
      | true =>
        have HM := hide' h3
        cases h4 : nmB e with
        | false =>
          have HE := hide' h4
          rw [rk_f4 h4]
          go_enter Tryz.func20, Tryz.ntmps20
          go_wp2_with (first
            | (go_at_call 57; refine (isFlags_any _ _).mono ?_; rw [HF.out]; rintro r w1 ⟨rfl, rfl⟩)
            | (go_at_call 62; have _ := T1; clear T1; refine (isNumber_any m _).mono ?_; rw [HM.out]; rintro r w1 ⟨rfl, rfl⟩)
            | (go_at_call 62; refine (isNumber_any e _).mono ?_; rw [HE.out]; rintro r w1 ⟨rfl, rfl⟩))
          go_ret
          exact ⟨rfl, below_one w _⟩
        | true =>
          have HE := hide' h4
          have T2 : Hid (True ∧ True) := ⟨trivial, trivial⟩
          cases h5 : nmB s with
          | false =>
            have HS := hide' h5
            rw [rk_f5 h5]
            go_enter Tryz.func20, Tryz.ntmps20
            go_wp2_with (first
              | (go_at_call 57; refine (isFlags_any _ _).mono ?_; rw [HF.out]; rintro r w1 ⟨rfl, rfl⟩)
              | (go_at_call 62; have _ := T1; clear T1; refine (isNumber_any m _).mono ?_; rw [HM.out]; rintro r w1 ⟨rfl, rfl⟩)
              | (go_at_call 62; have _ := T2; clear T2; refine (isNumber_any e _).mono ?_; rw [HE.out]; rintro r w1 ⟨rfl, rfl⟩)
              | (go_at_call 62; refine (isNumber_any s _).mono ?_; rw [HS.out]; rintro r w1 ⟨rfl, rfl⟩))
            go_ret
            exact ⟨rfl, below_one w _⟩
          | true =>
            have HS := hide' h5
            rw [rk_t h1 h2 h3 h4 h5]
            go_enter Tryz.func20, Tryz.ntmps20
            go_wp2_with (first
              | (go_at_call 57; refine (isFlags_any _ _).mono ?_; rw [HF.out]; rintro r w1 ⟨rfl, rfl⟩)
              | (go_at_call 62; have _ := T1; clear T1; refine (isNumber_any m _).mono ?_; rw [HM.out]; rintro r w1 ⟨rfl, rfl⟩)
              | (go_at_call 62; have _ := T2; clear T2; refine (isNumber_any e _).mono ?_; rw [HE.out]; rintro r w1 ⟨rfl, rfl⟩)
              | (go_at_call 62; refine (isNumber_any s _).mono ?_; rw [HS.out]; rintro r w1 ⟨rfl, rfl⟩))
            go_ret
            exact ⟨rfl, below_one w _⟩
    · rw [rk_f2 h2]
      go_enter Tryz.func20, Tryz.ntmps20
      go_wp2_with (go_at_call 57; refine (isFlags_any _ _).mono ?_; rw [HF.out]; rintro r w1 ⟨rfl, rfl⟩)
      go_ret
      exact ⟨rfl, below_one w _⟩

def smB (v low : Int) : Bool := decide (low ≤ v ∧ v ≤ 2147483647)
set_option maxRecDepth 100000 in
set_option maxHeartbeats 1000000 in
/-- gazetteerref4.some -/
theorem some_any (v low : Int) (w : World) :
    Calls Tryz.prog 75 #[.int .i64 v, .int .i64 low] w fun e w' => e = .returned (.bool (smB v low)) ∧ w' = w := by
  by_cases h1 : low ≤ v
  · by_cases h2 : v ≤ 2147483647
    · have HD : Hid (smB v low = true) := decide_eq_true ⟨h1, h2⟩
      go_enter Tryz.func75, Tryz.ntmps75
      go_wp2
      go_ret
      exact ⟨by rw [HD.out]; rfl, rfl⟩
    · have HD : Hid (smB v low = false) := decide_eq_false (by omega)
      go_enter Tryz.func75, Tryz.ntmps75
      go_wp2
      go_ret
      exact ⟨by rw [HD.out]; rfl, rfl⟩
  · have HD : Hid (smB v low = false) := decide_eq_false (by omega)
    go_enter Tryz.func75, Tryz.ntmps75
    go_wp2
    go_ret
    exact ⟨by rw [HD.out]; rfl, rfl⟩
theorem rk_sm {f m e s : Int} : rkB f m e s = (flB f && smB m 6 && smB e 1 && smB s 1) := by
  rw [rkB_eq]
  have h1 : smB m 6 = (decide (6 ≤ m) && nmB m) := by
    unfold smB nmB
    rw [Bool.eq_iff_iff]
    simp only [Bool.and_eq_true, decide_eq_true_eq]
    omega
  rw [h1]
  simp only [Bool.and_assoc]
  rfl

set_option maxRecDepth 100000 in
set_option maxHeartbeats 1000000 in
/-- gazetteerref4.RightKey -/
theorem refRight_any (f m e s : Int) (w : World) :
    Calls Tryz.prog 33 #[.agg #[.int .i64 f, .int .i64 m, .int .i64 e, .int .i64 s]] w fun r w' => r = .returned (.bool (rkB f m e s)) ∧ Below w.heap.size w w' := by
  rw [rk_sm]
  have T1 : Hid True := trivial
  have T2 : Hid (True ∧ True) := ⟨trivial, trivial⟩
  by_cases hf : FlagOK f
  · rw [flB_yes hf]
    have hfl : f = 256 ∨ f = 257 := hf
    clear hf
    rcases hfl with rfl | rfl
    all_goals
      cases h3 : smB m 6 with
      | false =>
        have HM := hide' h3
        go_enter Tryz.func33, Tryz.ntmps33
        go_wp2_with (go_at_call 75; refine (some_any m 6 _).mono ?_; rw [HM.out]; rintro r w1 ⟨rfl, rfl⟩)
        go_ret
        exact ⟨rfl, below_one w _⟩
      | true =>
        have HM := hide' h3
        cases h4 : smB e 1 with
        | false =>
          have HE := hide' h4
          go_enter Tryz.func33, Tryz.ntmps33
          go_wp2_with (first
            | (go_at_call 75; have _ := T1; clear T1; refine (some_any m 6 _).mono ?_; rw [HM.out]; rintro r w1 ⟨rfl, rfl⟩)
            | (go_at_call 75; refine (some_any e 1 _).mono ?_; rw [HE.out]; rintro r w1 ⟨rfl, rfl⟩))
          go_ret
          exact ⟨rfl, below_one w _⟩
        | true =>
          have HE := hide' h4
          cases h5 : smB s 1 with
          | false =>
            have HS := hide' h5
            go_enter Tryz.func33, Tryz.ntmps33
            go_wp2_with (first
              | (go_at_call 75; have _ := T1; clear T1; refine (some_any m 6 _).mono ?_; rw [HM.out]; rintro r w1 ⟨rfl, rfl⟩)
              | (go_at_call 75; have _ := T2; clear T2; refine (some_any e 1 _).mono ?_; rw [HE.out]; rintro r w1 ⟨rfl, rfl⟩)
              | (go_at_call 75; refine (some_any s 1 _).mono ?_; rw [HS.out]; rintro r w1 ⟨rfl, rfl⟩))
            go_ret
            exact ⟨rfl, below_one w _⟩
          | true =>
            have HS := hide' h5
            go_enter Tryz.func33, Tryz.ntmps33
            go_wp2_with (first
              | (go_at_call 75; have _ := T1; clear T1; refine (some_any m 6 _).mono ?_; rw [HM.out]; rintro r w1 ⟨rfl, rfl⟩)
              | (go_at_call 75; have _ := T2; clear T2; refine (some_any e 1 _).mono ?_; rw [HE.out]; rintro r w1 ⟨rfl, rfl⟩)
              | (go_at_call 75; refine (some_any s 1 _).mono ?_; rw [HS.out]; rintro r w1 ⟨rfl, rfl⟩))
            go_ret
            exact ⟨rfl, below_one w _⟩
  · rw [flB_no hf]
    have f1 : (f == 256) = false := by rw [beq_eq_false_iff_ne]; exact fun h => hf (.inl h)
    have f2 : (f == 257) = false := by rw [beq_eq_false_iff_ne]; exact fun h => hf (.inr h)
    have n1 : ¬ f = 256 := fun h => hf (.inl h)
    have n2 : ¬ f = 257 := fun h => hf (.inr h)
    clear hf
    go_enter Tryz.func33, Tryz.ntmps33
    go_wp2
    go_ret
    exact ⟨rfl, below_one w _⟩
end Go.Proofs.YtennkhdhnbdbeaaGreat

namespace Go.Proofs.YtennkhdhnbdbeaaGreat
set_option linter.unusedVariables false
open Go.RowKit Go.Shelf Go.Proofs.YtennkhdhnbdbeaaGreat.Nm

theorem pubB_no {f m e s : Int} (h : rkB f m e s = false) : pubB f m e s = ⟨#[]⟩ := by unfold pubB; rw [h]; rfl
theorem pubB_yes {f m e : Nat} {s : Int} (h : rkB f m e s = true) : pubB f m e s = pubN f m e := by unfold pubB; rw [h]; rfl
theorem rk_of {f m e s : Int} (h : rkB f m e s = true) : RK f m e s := by
  unfold rkB at h
  have h' := of_decide_eq_true h
  exact h'
theorem nB_three : nB 3 1 = bts [3] := by decide
theorem nB_alg : nB 253 1 = bts [253] := by decide

set_option maxRecDepth 100000 in
set_option maxHeartbeats 1000000 in
/-- seal.Public -/
theorem public_any (f m e s : Int) (w : World) :
    Calls Tryz.prog 15 #[.agg #[.int .i64 f, .int .i64 m, .int .i64 e, .int .i64 s]] w fun r w' => r = .returned (.string (pubB f m e s)) ∧ Below w.heap.size w w' := by
  cases h : rkB f m e s with
  | false =>
    have HR := hide' h
    rw [pubB_no h]
    obtain ⟨q0, q1, q2, q3⟩ := cells4 w (.int .i64 f) (.int .i64 m) (.int .i64 e) (.int .i64 s) 23
    go_enter Tryz.func15, Tryz.ntmps15
    go_wp2_with (go_at_call 20; refine (isRight_any f m e s _).mono ?_; rw [HR.out]; rintro r w1 ⟨rfl, hB1⟩)
    go_ret
    exact ⟨rfl, bstep (below_one w _) hB1 (by rw [World.size_alloc]; omega)⟩
  | true =>
    obtain ⟨h1, h2, h3, h4⟩ := rk_of h
    obtain ⟨a, rfl⟩ : ∃ a : Nat, f = (a : Int) := ⟨f.toNat, by have : f = 256 ∨ f = 257 := h1; omega⟩
    obtain ⟨b, rfl⟩ : ∃ b : Nat, m = (b : Int) := ⟨m.toNat, by omega⟩
    obtain ⟨c, rfl⟩ : ∃ c : Nat, e = (c : Int) := ⟨e.toNat, by omega⟩
    have hal : a ≤ 257 := by have : (a : Int) = 256 ∨ (a : Int) = 257 := h1; omega
    rw [pubB_yes h]
    have HR := hide' h
    obtain ⟨q0, q1, q2, q3⟩ := cells4 w (.int .i64 (a : Int)) (.int .i64 (b : Int)) (.int .i64 (c : Int)) (.int .i64 s) 23
    have QF : Hid (∀ w' : World, Below (w.alloc (.cells #[.int .i64 (a : Int), .int .i64 (b : Int), .int .i64 (c : Int), .int .i64 s] 23)).heap.size (w.alloc (.cells #[.int .i64 (a : Int), .int .i64 (b : Int), .int .i64 (c : Int), .int .i64 s] 23)) w' → w'.cell? ⟨w.heap.size, 0, none⟩ = some (.int .i64 (a : Int)) ∧ w'.cell? ⟨w.heap.size, 1, none⟩ = some (.int .i64 (b : Int)) ∧ w'.cell? ⟨w.heap.size, 2, none⟩ = some (.int .i64 (c : Int))) := fun w' hb => by
      have hl : w.heap.size < (w.alloc (.cells #[.int .i64 (a : Int), .int .i64 (b : Int), .int .i64 (c : Int), .int .i64 s] 23)).heap.size := by simp
      exact ⟨(hb.cell (p := ⟨w.heap.size, 0, none⟩) hl).trans q0, (hb.cell (p := ⟨w.heap.size, 1, none⟩) hl).trans q1, (hb.cell (p := ⟨w.heap.size, 2, none⟩) hl).trans q2⟩
    obtain ⟨X1, hX1⟩ : ∃ X, nB a 2 = X := ⟨_, rfl⟩
    obtain ⟨X2, hX2⟩ : ∃ X, nB 3 1 = X := ⟨_, rfl⟩
    obtain ⟨X3, hX3⟩ : ∃ X, nB 253 1 = X := ⟨_, rfl⟩
    obtain ⟨X4, hX4⟩ : ∃ X, nB b 4 = X := ⟨_, rfl⟩
    obtain ⟨X5, hX5⟩ : ∃ X, nB c 4 = X := ⟨_, rfl⟩
    have z1 : X1.size = 2 := by rw [← hX1, nB_size]
    have z2 : X2.size = 1 := by rw [← hX2, nB_size]
    have z3 : X3.size = 1 := by rw [← hX3, nB_size]
    have z4 : X4.size = 4 := by rw [← hX4, nB_size]
    have z5 : X5.size = 4 := by rw [← hX5, nB_size]
    have s1 : ∀ W : World, (Op.stringOp .add X1 X2).run Tryz.prog W = .ok (.string (X1 ++ X2)) W := fun W => run_string_add_sum W _ _ (by omega)
    have s2 : ∀ W : World, (Op.stringOp .add (X1 ++ X2) X3).run Tryz.prog W = .ok (.string (X1 ++ X2 ++ X3)) W := fun W => run_string_add_sum W _ _ (by rw [ByteArray.size_append]; omega)
    have s3 : ∀ W : World, (Op.stringOp .add (X1 ++ X2 ++ X3) X4).run Tryz.prog W = .ok (.string (X1 ++ X2 ++ X3 ++ X4)) W := fun W => run_string_add_sum W _ _ (by rw [ByteArray.size_append, ByteArray.size_append]; omega)
    have s4 : ∀ W : World, (Op.stringOp .add (X1 ++ X2 ++ X3 ++ X4) X5).run Tryz.prog W = .ok (.string (X1 ++ X2 ++ X3 ++ X4 ++ X5)) W := fun W => run_string_add_sum W _ _ (by rw [ByteArray.size_append, ByteArray.size_append, ByteArray.size_append]; omega)
    have HV : Hid (pubN a b c = X1 ++ X2 ++ X3 ++ X4 ++ X5) := by unfold Hid pubN; rw [← nB_three, ← nB_alg, hX1, hX2, hX3, hX4, hX5]
    have HX1 := hide' hX1
    have HX2 := hide' hX2
    have HX3 := hide' hX3
    have HX4 := hide' hX4
    have HX5 := hide' hX5
    rw [HV.out]
    have T1 : Hid True := trivial
    have T2 : Hid True := trivial
    have T3 : Hid True := trivial
    have T4 : Hid True := trivial
    have T5 : Hid True := trivial
    clear hX1 hX2 hX3 hX4 hX5 z1 z2 z3 z4 z5 HV h q3 h4 h1
    go_enter Tryz.func15, Tryz.ntmps15
    go_wp2_with (go_at_call 20; refine (isRight_any (a : Int) (b : Int) (c : Int) s _).mono ?_; rw [HR.out]; rintro r w1 ⟨rfl, hB1⟩)
    have HB1 := hide' hB1
    obtain ⟨C0, hC0⟩ : ∃ C0, (w.alloc (.cells #[.int .i64 (a : Int), .int .i64 (b : Int), .int .i64 (c : Int), .int .i64 s] 23)) = C0 := ⟨_, rfl⟩
    rw [hC0] at HB1 QF hB1
    have HC0 := hide' hC0
    clear hC0
    obtain ⟨k0, k1, k2⟩ := QF.out w1 hB1
    clear hB1 q0 q1 q2
    go_region_held3 (fun w' => w'.cell? ⟨w.heap.size, 0, none⟩ = some (.int .i64 (a : Int)) ∧ w'.cell? ⟨w.heap.size, 1, none⟩ = some (.int .i64 (b : Int)) ∧ w'.cell? ⟨w.heap.size, 2, none⟩ = some (.int .i64 (c : Int))) (first | go_keep | exact QF.out _ HB6.out | exact QF.out _ HB5.out | exact QF.out _ HB4.out | exact QF.out _ HB3.out | exact QF.out _ HB2.out) (first
      | (go_at_call 32; have _ := T1; clear T1; refine (spellBytes_any 2 a _ (by omega) (by omega)).mono ?_; rw [HX1.out]; rintro r w2 ⟨rfl, hB⟩; have HB2 := hide' (show Below C0.heap.size C0 w2 by first | exact bstep HB1.out hB HB1.out.size | exact bstep HB1.out.drew hB HB1.out.size); clear hB)
      | (go_at_call 32; have _ := T2; clear T2; refine (spellBytes_any 1 3 _ (by omega) (by omega)).mono ?_; rw [HX2.out]; rintro r w3 ⟨rfl, hB⟩; have HB3 := hide' (show Below C0.heap.size C0 w3 by first | exact bstep HB2.out hB HB2.out.size | exact bstep HB2.out.drew hB HB2.out.size); clear hB)
      | (go_at_call 32; have _ := T3; clear T3; refine (spellBytes_any 1 253 _ (by omega) (by omega)).mono ?_; rw [HX3.out]; rintro r w4 ⟨rfl, hB⟩; have HB4 := hide' (show Below C0.heap.size C0 w4 by first | exact bstep HB3.out hB HB3.out.size | exact bstep HB3.out.drew hB HB3.out.size); clear hB)
      | (go_at_call 32; have _ := T4; clear T4; refine (spellBytes_any 4 b _ (by omega) (by omega)).mono ?_; rw [HX4.out]; rintro r w5 ⟨rfl, hB⟩; have HB5 := hide' (show Below C0.heap.size C0 w5 by first | exact bstep HB4.out hB HB4.out.size | exact bstep HB4.out.drew hB HB4.out.size); clear hB)
      | (go_at_call 32; have _ := T5; clear T5; refine (spellBytes_any 4 c _ (by omega) (by omega)).mono ?_; rw [HX5.out]; rintro r w6 ⟨rfl, hB⟩; have HB6 := hide' (show Below C0.heap.size C0 w6 by first | exact bstep HB5.out hB HB5.out.size | exact bstep HB5.out.drew hB HB5.out.size); clear hB))
    go_wp2_with fail
    go_ret
    refine ⟨rfl, bstep (show Below w.heap.size w C0 from HC0.out ▸ below_one w _) HB6.out ?_⟩
    rw [← HC0.out, World.size_alloc]; omega

set_option maxRecDepth 100000 in
set_option maxHeartbeats 1000000 in
/-- gazetteerref4.Public -/
theorem refPublic_any (f m e s : Int) (w : World) :
    Calls Tryz.prog 40 #[.agg #[.int .i64 f, .int .i64 m, .int .i64 e, .int .i64 s]] w fun r w' => r = .returned (.string (pubB f m e s)) ∧ Below w.heap.size w w' := by
  cases h : rkB f m e s with
  | false =>
    have HR := hide' h
    rw [pubB_no h]
    obtain ⟨q0, q1, q2, q3⟩ := cells4 w (.int .i64 f) (.int .i64 m) (.int .i64 e) (.int .i64 s) 23
    go_enter Tryz.func40, Tryz.ntmps40
    go_wp2_with (go_at_call 33; refine (refRight_any f m e s _).mono ?_; rw [HR.out]; rintro r w1 ⟨rfl, hB1⟩)
    go_ret
    exact ⟨rfl, bstep (below_one w _) hB1 (by rw [World.size_alloc]; omega)⟩
  | true =>
    obtain ⟨h1, h2, h3, h4⟩ := rk_of h
    obtain ⟨a, rfl⟩ : ∃ a : Nat, f = (a : Int) := ⟨f.toNat, by have : f = 256 ∨ f = 257 := h1; omega⟩
    obtain ⟨b, rfl⟩ : ∃ b : Nat, m = (b : Int) := ⟨m.toNat, by omega⟩
    obtain ⟨c, rfl⟩ : ∃ c : Nat, e = (c : Int) := ⟨e.toNat, by omega⟩
    have hal : a ≤ 257 := by have : (a : Int) = 256 ∨ (a : Int) = 257 := h1; omega
    rw [pubB_yes h]
    have HR := hide' h
    obtain ⟨q0, q1, q2, q3⟩ := cells4 w (.int .i64 (a : Int)) (.int .i64 (b : Int)) (.int .i64 (c : Int)) (.int .i64 s) 23
    have QF : Hid (∀ w' : World, Below (w.alloc (.cells #[.int .i64 (a : Int), .int .i64 (b : Int), .int .i64 (c : Int), .int .i64 s] 23)).heap.size (w.alloc (.cells #[.int .i64 (a : Int), .int .i64 (b : Int), .int .i64 (c : Int), .int .i64 s] 23)) w' → w'.cell? ⟨w.heap.size, 0, none⟩ = some (.int .i64 (a : Int)) ∧ w'.cell? ⟨w.heap.size, 1, none⟩ = some (.int .i64 (b : Int)) ∧ w'.cell? ⟨w.heap.size, 2, none⟩ = some (.int .i64 (c : Int))) := fun w' hb => by
      have hl : w.heap.size < (w.alloc (.cells #[.int .i64 (a : Int), .int .i64 (b : Int), .int .i64 (c : Int), .int .i64 s] 23)).heap.size := by simp
      exact ⟨(hb.cell (p := ⟨w.heap.size, 0, none⟩) hl).trans q0, (hb.cell (p := ⟨w.heap.size, 1, none⟩) hl).trans q1, (hb.cell (p := ⟨w.heap.size, 2, none⟩) hl).trans q2⟩
    obtain ⟨X1, hX1⟩ : ∃ X, nB a 2 = X := ⟨_, rfl⟩
    obtain ⟨X4, hX4⟩ : ∃ X, nB b 4 = X := ⟨_, rfl⟩
    obtain ⟨X5, hX5⟩ : ∃ X, nB c 4 = X := ⟨_, rfl⟩
    have z1 : X1.size = 2 := by rw [← hX1, nB_size]
    have z4 : X4.size = 4 := by rw [← hX4, nB_size]
    have z5 : X5.size = 4 := by rw [← hX5, nB_size]
    have s1 : ∀ W : World, (Op.stringOp .add X1 ⟨#[3, 253]⟩).run Tryz.prog W = .ok (.string (X1 ++ ⟨#[3, 253]⟩)) W := fun W => run_string_add_sum W _ _ (by rw [show (⟨#[3, 253]⟩ : ByteArray).size = 2 from rfl]; omega)
    have s3 : ∀ W : World, (Op.stringOp .add (X1 ++ ⟨#[3, 253]⟩) X4).run Tryz.prog W = .ok (.string (X1 ++ ⟨#[3, 253]⟩ ++ X4)) W := fun W => run_string_add_sum W _ _ (by rw [ByteArray.size_append, show (⟨#[3, 253]⟩ : ByteArray).size = 2 from rfl]; omega)
    have s4 : ∀ W : World, (Op.stringOp .add (X1 ++ ⟨#[3, 253]⟩ ++ X4) X5).run Tryz.prog W = .ok (.string (X1 ++ ⟨#[3, 253]⟩ ++ X4 ++ X5)) W := fun W => run_string_add_sum W _ _ (by rw [ByteArray.size_append, ByteArray.size_append, show (⟨#[3, 253]⟩ : ByteArray).size = 2 from rfl]; omega)
    have HV : Hid (pubN a b c = X1 ++ ⟨#[3, 253]⟩ ++ X4 ++ X5) := by
      unfold Hid pubN
      rw [hX1, hX4, hX5, show (⟨#[3, 253]⟩ : ByteArray) = bts [3] ++ bts [253] from rfl, ByteArray.append_assoc (a := X1)]
    have HX1 := hide' hX1
    have HX4 := hide' hX4
    have HX5 := hide' hX5
    rw [HV.out]
    have T1 : Hid True := trivial
    have T2 : Hid True := trivial
    have T3 : Hid True := trivial
    have T4 : Hid True := trivial
    have T5 : Hid True := trivial
    clear hX1 hX4 hX5 z1 z4 z5 HV h q3 h4 h1
    go_enter Tryz.func40, Tryz.ntmps40
    go_wp2_with (go_at_call 33; refine (refRight_any (a : Int) (b : Int) (c : Int) s _).mono ?_; rw [HR.out]; rintro r w1 ⟨rfl, hB1⟩)
    have HB1 := hide' hB1
    obtain ⟨C0, hC0⟩ : ∃ C0, (w.alloc (.cells #[.int .i64 (a : Int), .int .i64 (b : Int), .int .i64 (c : Int), .int .i64 s] 23)) = C0 := ⟨_, rfl⟩
    rw [hC0] at HB1 QF hB1
    have HC0 := hide' hC0
    clear hC0
    obtain ⟨k0, k1, k2⟩ := QF.out w1 hB1
    clear hB1 q0 q1 q2
    go_region_held3 (fun w' => w'.cell? ⟨w.heap.size, 0, none⟩ = some (.int .i64 (a : Int)) ∧ w'.cell? ⟨w.heap.size, 1, none⟩ = some (.int .i64 (b : Int)) ∧ w'.cell? ⟨w.heap.size, 2, none⟩ = some (.int .i64 (c : Int))) (first | go_keep | exact QF.out _ HB4.out | exact QF.out _ HB3.out | exact QF.out _ HB2.out) (first
      | (go_at_call 37; have _ := T1; clear T1; refine (refBytes_any 2 a _ (by omega) (by omega)).mono ?_; rw [HX1.out]; rintro r w2 ⟨rfl, hB⟩; have HB2 := hide' (show Below C0.heap.size C0 w2 by first | exact bstep HB1.out hB HB1.out.size | exact bstep HB1.out.drew hB HB1.out.size); clear hB)
      | (go_at_call 37; have _ := T2; clear T2; refine (refBytes_any 4 b _ (by omega) (by omega)).mono ?_; rw [HX4.out]; rintro r w3 ⟨rfl, hB⟩; have HB3 := hide' (show Below C0.heap.size C0 w3 by first | exact bstep HB2.out hB HB2.out.size | exact bstep HB2.out.drew hB HB2.out.size); clear hB)
      | (go_at_call 37; have _ := T3; clear T3; refine (refBytes_any 4 c _ (by omega) (by omega)).mono ?_; rw [HX5.out]; rintro r w4 ⟨rfl, hB⟩; have HB4 := hide' (show Below C0.heap.size C0 w4 by first | exact bstep HB3.out hB HB3.out.size | exact bstep HB3.out.drew hB HB3.out.size); clear hB))
    go_wp2_with fail
    go_ret
    refine ⟨rfl, bstep (show Below w.heap.size w C0 from HC0.out ▸ below_one w _) HB4.out ?_⟩
    rw [← HC0.out, World.size_alloc]; omega
end Go.Proofs.YtennkhdhnbdbeaaGreat
