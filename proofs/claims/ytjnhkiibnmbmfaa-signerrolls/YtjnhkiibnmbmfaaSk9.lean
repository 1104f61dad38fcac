import Derived.Test.YtjnhkiibnmbmfaaSk8
import Derived.Test.YtjnhkiibnmbmfaaSk5
namespace Go.Proofs.Ytjnhkiibnmbmfaa.Nm
set_option linter.unusedVariables false

/-- a right key -/
def RK (f m e s : Int) : Prop := FlagOK f ∧ (6 ≤ m ∧ m ≤ 2147483647) ∧ (1 ≤ e ∧ e ≤ 2147483647) ∧ (1 ≤ s ∧ s ≤ 2147483647)
def rkB (f m e s : Int) : Bool := decide ((f = 256 ∨ f = 257) ∧ (6 ≤ m ∧ m ≤ 2147483647) ∧ (1 ≤ e ∧ e ≤ 2147483647) ∧ (1 ≤ s ∧ s ≤ 2147483647))
theorem rkB_yes {f m e s : Int} (h : RK f m e s) : rkB f m e s = true := decide_eq_true h
theorem rkB_no {f m e s : Int} (h : ¬ RK f m e s) : rkB f m e s = false := decide_eq_false h
theorem rkB_eq (f m e s : Int) : rkB f m e s = (flB f && decide (6 ≤ m) && nmB m && nmB e && nmB s) := by
  by_cases h : RK f m e s
  · rw [rkB_yes h]
    obtain ⟨h1, h2, h3, h4⟩ := h
    rw [flB_yes h1, nmB_yes ⟨by omega, h2.2⟩, nmB_yes h3, nmB_yes h4, decide_eq_true h2.1]; rfl
  · rw [rkB_no h]
    symm
    apply Bool.eq_false_iff.2
    intro hh
    simp only [Bool.and_eq_true, decide_eq_true_eq] at hh
    obtain ⟨⟨⟨⟨h1, h2⟩, h3⟩, h4⟩, h5⟩ := hh
    exact h ⟨(show f = 256 ∨ f = 257 from of_decide_eq_true h1), ⟨h2, (of_decide_eq_true h3).2⟩, of_decide_eq_true h4, of_decide_eq_true h5⟩
theorem rk_f1 {f m e s : Int} (h : flB f = false) : rkB f m e s = false := by rw [rkB_eq, h]; rfl
theorem rk_f2 {f m e s : Int} (h : ¬ 6 ≤ m) : rkB f m e s = false := by rw [rkB_eq, decide_eq_false h]; simp
theorem rk_f3 {f m e s : Int} (h : nmB m = false) : rkB f m e s = false := by rw [rkB_eq, h]; simp
theorem rk_f4 {f m e s : Int} (h : nmB e = false) : rkB f m e s = false := by rw [rkB_eq, h]; simp
theorem rk_f5 {f m e s : Int} (h : nmB s = false) : rkB f m e s = false := by rw [rkB_eq, h]; simp
theorem rk_t {f m e s : Int} (h1 : flB f = true) (h2 : 6 ≤ m) (h3 : nmB m = true) (h4 : nmB e = true) (h5 : nmB s = true) : rkB f m e s = true := by rw [rkB_eq, h1, h3, h4, h5, decide_eq_true h2]; rfl
/-- what is told of a right key -/
def pubN (f m e : Nat) : ByteArray := nB f 2 ++ bts [3] ++ bts [253] ++ nB m 4 ++ nB e 4
theorem pubN_size (f m e : Nat) : (pubN f m e).size = 12 := by unfold pubN; simp [ByteArray.size_append, nB_size, bts_size]
def pubB (f m e s : Int) : ByteArray := bif rkB f m e s then pubN f.toNat m.toNat e.toNat else ⟨#[]⟩
end Go.Proofs.Ytjnhkiibnmbmfaa.Nm
namespace Go.Proofs.Ytjnhkiibnmbmfaa
set_option linter.unusedVariables false
open Go.RowKit Go.Shelf Go.Proofs.Ytjnhkiibnmbmfaa.Nm

theorem below_one (w : World) (o : Obj) : Below w.heap.size w (w.alloc o) := (Below.refl _ _).alloc (Nat.le_refl _) _

set_option maxRecDepth 100000 in
set_option maxHeartbeats 1000000 in
/-- seal.isRight -/
theorem isRight_any (f m e s : Int) (w : World) :
    Calls Try.prog 33 #[.agg #[.int .i64 f, .int .i64 m, .int .i64 e, .int .i64 s]] w fun r w' => r = .returned (.bool (rkB f m e s)) ∧ Below w.heap.size w w' := by
  have T1 : Hid True := trivial
  cases h1 : flB f with
  | false =>
    have HF := hide' h1
    rw [rk_f1 h1]
    go_enter Try.func33, Try.ntmps33
    go_wp2_with (go_at_call 10; refine (isFlags_any _ _).mono ?_; rw [HF.out]; rintro r w1 ⟨rfl, rfl⟩)
    go_ret
    exact ⟨rfl, below_one w _⟩
  | true =>
    have HF := hide' h1
    by_cases h2 : 6 ≤ m
    · cases h3 : nmB m with
      | false =>
        have HM := hide' h3
        rw [rk_f3 h3]
        go_enter Try.func33, Try.ntmps33
        go_wp2_with (first
          | (go_at_call 10; refine (isFlags_any _ _).mono ?_; rw [HF.out]; rintro r w1 ⟨rfl, rfl⟩)
          | (go_at_call 27; refine (isNumber_any m _).mono ?_; rw [HM.out]; rintro r w1 ⟨rfl, rfl⟩))
        go_ret
        exact ⟨rfl, below_one w _⟩
      | true =>
        have HM := hide' h3
        cases h4 : nmB e with
        | false =>
          have HE := hide' h4
          rw [rk_f4 h4]
          go_enter Try.func33, Try.ntmps33
          go_wp2_with (first
            | (go_at_call 10; refine (isFlags_any _ _).mono ?_; rw [HF.out]; rintro r w1 ⟨rfl, rfl⟩)
            | (go_at_call 27; have _ := T1; clear T1; refine (isNumber_any m _).mono ?_; rw [HM.out]; rintro r w1 ⟨rfl, rfl⟩)
            | (go_at_call 27; refine (isNumber_any e _).mono ?_; rw [HE.out]; rintro r w1 ⟨rfl, rfl⟩))
          go_ret
          exact ⟨rfl, below_one w _⟩
        | true =>
          have HE := hide' h4
          have T2 : Hid (True ∧ True) := ⟨trivial, trivial⟩
          cases h5 : nmB s with
          | false =>
            have HS := hide' h5
            rw [rk_f5 h5]
            go_enter Try.func33, Try.ntmps33
            go_wp2_with (first
              | (go_at_call 10; refine (isFlags_any _ _).mono ?_; rw [HF.out]; rintro r w1 ⟨rfl, rfl⟩)
              | (go_at_call 27; have _ := T1; clear T1; refine (isNumber_any m _).mono ?_; rw [HM.out]; rintro r w1 ⟨rfl, rfl⟩)
              | (go_at_call 27; have _ := T2; clear T2; refine (isNumber_any e _).mono ?_; rw [HE.out]; rintro r w1 ⟨rfl, rfl⟩)
              | (go_at_call 27; refine (isNumber_any s _).mono ?_; rw [HS.out]; rintro r w1 ⟨rfl, rfl⟩))
            go_ret
            exact ⟨rfl, below_one w _⟩
          | true =>
            have HS := hide' h5
            rw [rk_t h1 h2 h3 h4 h5]
            go_enter Try.func33, Try.ntmps33
            go_wp2_with (first
              | (go_at_call 10; refine (isFlags_any _ _).mono ?_; rw [HF.out]; rintro r w1 ⟨rfl, rfl⟩)
              | (go_at_call 27; have _ := T1; clear T1; refine (isNumber_any m _).mono ?_; rw [HM.out]; rintro r w1 ⟨rfl, rfl⟩)
              | (go_at_call 27; have _ := T2; clear T2; refine (isNumber_any e _).mono ?_; rw [HE.out]; rintro r w1 ⟨rfl, rfl⟩)
              | (go_at_call 27; refine (isNumber_any s _).mono ?_; rw [HS.out]; rintro r w1 ⟨rfl, rfl⟩))
            go_ret
            exact ⟨rfl, below_one w _⟩
    · rw [rk_f2 h2]
      go_enter Try.func33, Try.ntmps33
      go_wp2_with (go_at_call 10; refine (isFlags_any _ _).mono ?_; rw [HF.out]; rintro r w1 ⟨rfl, rfl⟩)
      go_ret
      exact ⟨rfl, below_one w _⟩

def smB (v low : Int) : Bool := decide (low ≤ v ∧ v ≤ 2147483647)
set_option maxRecDepth 100000 in
set_option maxHeartbeats 1000000 in
/-- gazetteerref4.some -/
theorem some_any (v low : Int) (w : World) :
    Calls Try.prog 35 #[.int .i64 v, .int .i64 low] w fun e w' => e = .returned (.bool (smB v low)) ∧ w' = w := by
  by_cases h1 : low ≤ v
  · by_cases h2 : v ≤ 2147483647
    · have HD : Hid (smB v low = true) := decide_eq_true ⟨h1, h2⟩
      go_enter Try.func35, Try.ntmps35
      go_wp2
      go_ret
      exact ⟨by rw [HD.out]; rfl, rfl⟩
    · have HD : Hid (smB v low = false) := decide_eq_false (by omega)
      go_enter Try.func35, Try.ntmps35
      go_wp2
      go_ret
      exact ⟨by rw [HD.out]; rfl, rfl⟩
  · have HD : Hid (smB v low = false) := decide_eq_false (by omega)
    go_enter Try.func35, Try.ntmps35
    go_wp2
    go_ret
    exact ⟨by rw [HD.out]; rfl, rfl⟩
theorem rk_sm {f m e s : Int} : rkB f m e s = (flB f && smB m 6 && smB e 1 && smB s 1) := by
  rw [rkB_eq]
  have h1 : smB m 6 = (decide (6 ≤ m) && nmB m) := by
    unfold smB nmB
    rw [Bool.eq_iff_iff]
    simp only [Bool.and_eq_true, decide_eq_true_eq]
    omega
  rw [h1]
  simp only [Bool.and_assoc]
  rfl

set_option maxRecDepth 100000 in
set_option maxHeartbeats 1000000 in
/-- gazetteerref4.RightKey -/
theorem refRight_any (f m e s : Int) (w : World) :
    Calls Try.prog 21 #[.agg #[.int .i64 f, .int .i64 m, .int .i64 e, .int .i64 s]] w fun r w' => r = .returned (.bool (rkB f m e s)) ∧ Below w.heap.size w w' := by
  rw [rk_sm]
  have T1 : Hid True := trivial
  have T2 : Hid (True ∧ True) := ⟨trivial, trivial⟩
  by_cases hf : FlagOK f
  · rw [flB_yes hf]
    have hfl : f = 256 ∨ f = 257 := hf
    clear hf
    rcases hfl with rfl | rfl
    all_goals
      cases h3 : smB m 6 with
      | false =>
        have HM := hide' h3
        go_enter Try.func21, Try.ntmps21
        go_wp2_with (go_at_call 35; refine (some_any m 6 _).mono ?_; rw [HM.out]; rintro r w1 ⟨rfl, rfl⟩)
        go_ret
        exact ⟨rfl, below_one w _⟩
      | true =>
        have HM := hide' h3
        cases h4 : smB e 1 with
        | false =>
          have HE := hide' h4
          go_enter Try.func21, Try.ntmps21
          go_wp2_with (first
            | (go_at_call 35; have _ := T1; clear T1; refine (some_any m 6 _).mono ?_; rw [HM.out]; rintro r w1 ⟨rfl, rfl⟩)
            | (go_at_call 35; refine (some_any e 1 _).mono ?_; rw [HE.out]; rintro r w1 ⟨rfl, rfl⟩))
          go_ret
          exact ⟨rfl, below_one w _⟩
        | true =>
          have HE := hide' h4
          cases h5 : smB s 1 with
          | false =>
            have HS := hide' h5
            go_enter Try.func21, Try.ntmps21
            go_wp2_with (first
              | (go_at_call 35; have _ := T1; clear T1; refine (some_any m 6 _).mono ?_; rw [HM.out]; rintro r w1 ⟨rfl, rfl⟩)
              | (go_at_call 35; have _ := T2; clear T2; refine (some_any e 1 _).mono ?_; rw [HE.out]; rintro r w1 ⟨rfl, rfl⟩)
              | (go_at_call 35; refine (some_any s 1 _).mono ?_; rw [HS.out]; rintro r w1 ⟨rfl, rfl⟩))
            go_ret
            exact ⟨rfl, below_one w _⟩
          | true =>
            have HS := hide' h5
            go_enter Try.func21, Try.ntmps21
            go_wp2_with (first
              | (go_at_call 35; have _ := T1; clear T1; refine (some_any m 6 _).mono ?_; rw [HM.out]; rintro r w1 ⟨rfl, rfl⟩)
              | (go_at_call 35; have _ := T2; clear T2; refine (some_any e 1 _).mono ?_; rw [HE.out]; rintro r w1 ⟨rfl, rfl⟩)
              | (go_at_call 35; refine (some_any s 1 _).mono ?_; rw [HS.out]; rintro r w1 ⟨rfl, rfl⟩))
            go_ret
            exact ⟨rfl, below_one w _⟩
  · rw [flB_no hf]
    have f1 : (f == 256) = false := by rw [beq_eq_false_iff_ne]; exact fun h => hf (.inl h)
    have f2 : (f == 257) = false := by rw [beq_eq_false_iff_ne]; exact fun h => hf (.inr h)
    have n1 : ¬ f = 256 := fun h => hf (.inl h)
    have n2 : ¬ f = 257 := fun h => hf (.inr h)
    clear hf
    go_enter Try.func21, Try.ntmps21
    go_wp2
    go_ret
    exact ⟨rfl, below_one w _⟩
end Go.Proofs.Ytjnhkiibnmbmfaa
