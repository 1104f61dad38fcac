import Derived.Test.YtdaimcccdleodaaGr0
import Derived.Deep.RegionHeld3
import Derived.Deep.RegionLaw
import Derived.Laws.BitsAll
/-
  Chapter 15: nets. (The verifier's own text.)
-/
namespace Go.Proofs.Ytdaimcccdleodaa
set_option linter.unusedVariables false
set_option linter.unusedSimpArgs false
open Go.RowKit Go.Shelf

theorem hidq {p : Prop} (h : p) : Hid p := h
/-- is it an address? -/
def adB (s : ByteArray) : Bool := (s.size : Int) == 4 || (s.size : Int) == 16
theorem isAddress_any (s : ByteArray) (w : World) : Calls Try.prog 14 #[.string s] w fun e w' => e = .returned (.bool (adB s)) ∧ w' = w := by
  unfold adB
  go_enter Try.func14, Try.ntmps14
  go_wp2_with fail
  all_goals
    go_ret
    simp_all
theorem address_any (s : ByteArray) (w : World) : Calls Try.prog 15 #[.string s] w fun e w' => e = .returned (.bool (adB s)) ∧ w' = w := by
  unfold adB
  go_enter Try.func15, Try.ntmps15
  go_wp2_with fail
  all_goals
    go_ret
    simp_all
/-- is the net right, and the address of its kind? -/
def rtB (A : ByteArray) (b : Int) (a : ByteArray) : Bool := adB A && ((a.size : Int) == (A.size : Int)) && decide (0 ≤ b) && decide (b ≤ 8 * (A.size : Int))
set_option maxRecDepth 100000 in
theorem inside_bad1 (A a : ByteArray) (b : Int) (w : World) (hA : adB A = false) : Calls Try.prog 7 #[.agg #[.string A, .int .i64 b], .string a] w fun e w' => e = .returned (.bool false) ∧ Below w.heap.size w w' := by
  have H := hidq (isAddress_any A)
  have HB := hidq ((Below.refl w.heap.size w).alloc (Nat.le_refl _) (.cells #[.string A, .int .i64 b] 23))
  rw [hA] at H
  clear hA
  go_enter Try.func7, Try.ntmps7
  go_wp2_with (first
    | (go_at_call 14; (with_reducible refine (H.out _).mono ?_); rintro e w1 ⟨rfl, rfl⟩))
  all_goals
    go_ret
    exact ⟨rfl, HB.out⟩
set_option maxRecDepth 100000 in
theorem rinside_bad1 (A a : ByteArray) (b : Int) (w : World) (hA : adB A = false) : Calls Try.prog 8 #[.agg #[.string A, .int .i64 b], .string a] w fun e w' => e = .returned (.bool false) ∧ Below w.heap.size w w' := by
  have H := hidq (address_any A)
  have HB := hidq ((Below.refl w.heap.size w).alloc (Nat.le_refl _) (.cells #[.string A, .int .i64 b] 23))
  rw [hA] at H
  clear hA
  go_enter Try.func8, Try.ntmps8
  go_wp2_with (first
    | (go_at_call 15; (with_reducible refine (H.out _).mono ?_); rintro e w1 ⟨rfl, rfl⟩))
  all_goals
    go_ret
    exact ⟨rfl, HB.out⟩
set_option maxRecDepth 100000 in
theorem inside_bad2 (A a : ByteArray) (b : Int) (w : World) (hA : adB A = true) (hs : ((a.size : Int) != (A.size : Int)) = true) : Calls Try.prog 7 #[.agg #[.string A, .int .i64 b], .string a] w fun e w' => e = .returned (.bool false) ∧ Below w.heap.size w w' := by
  have H := hidq (isAddress_any A)
  have HB := hidq ((Below.refl w.heap.size w).alloc (Nat.le_refl _) (.cells #[.string A, .int .i64 b] 23))
  rw [hA] at H
  clear hA
  go_enter Try.func7, Try.ntmps7
  go_wp2_with (first
    | (go_at_call 14; (with_reducible refine (H.out _).mono ?_); rintro e w1 ⟨rfl, rfl⟩))
  all_goals
    go_ret
    exact ⟨rfl, HB.out⟩
set_option maxRecDepth 100000 in
theorem rinside_bad2 (A a : ByteArray) (b : Int) (w : World) (hA : adB A = true) (hs : ((a.size : Int) != (A.size : Int)) = true) : Calls Try.prog 8 #[.agg #[.string A, .int .i64 b], .string a] w fun e w' => e = .returned (.bool false) ∧ Below w.heap.size w w' := by
  have H := hidq (address_any A)
  have HB := hidq ((Below.refl w.heap.size w).alloc (Nat.le_refl _) (.cells #[.string A, .int .i64 b] 23))
  rw [hA] at H
  clear hA
  have H2 := hidq (address_any a)
  cases hB : adB a with
  | false =>
    rw [hB] at H2
    clear hB
    go_enter Try.func8, Try.ntmps8
    go_wp2_with (first
      | (go_at_call 15; (with_reducible refine (H.out _).mono ?_); rintro e w1 ⟨rfl, rfl⟩)
      | (go_at_call 15; (with_reducible refine (H2.out _).mono ?_); rintro e w1 ⟨rfl, rfl⟩))
    all_goals
      go_ret
      exact ⟨rfl, HB.out⟩
  | true =>
    rw [hB] at H2
    clear hB
    go_enter Try.func8, Try.ntmps8
    go_wp2_with (first
      | (go_at_call 15; (with_reducible refine (H.out _).mono ?_); rintro e w1 ⟨rfl, rfl⟩)
      | (go_at_call 15; (with_reducible refine (H2.out _).mono ?_); rintro e w1 ⟨rfl, rfl⟩))
    all_goals
      go_ret
      exact ⟨rfl, HB.out⟩
set_option maxRecDepth 100000 in
theorem inside_bad3 (A a : ByteArray) (b : Int) (w : World) (hA : adB A = true) (hs : a.size = A.size) (hb : b < 0) : Calls Try.prog 7 #[.agg #[.string A, .int .i64 b], .string a] w fun e w' => e = .returned (.bool false) ∧ Below w.heap.size w w' := by
  have H := hidq (isAddress_any A)
  have HB := hidq ((Below.refl w.heap.size w).alloc (Nat.le_refl _) (.cells #[.string A, .int .i64 b] 23))
  rw [hA] at H
  obtain ⟨n, hn⟩ : ∃ n, A.size = n := ⟨_, rfl⟩
  rw [hn] at hs
  have hne : ((n : Int) != (n : Int)) = false := by simp
  have e1 : decide (b < 0) = true := by simp; omega
  clear hA hb
  go_enter Try.func7, Try.ntmps7
  go_wp2_with (first
    | (go_at_call 14; (with_reducible refine (H.out _).mono ?_); rintro e w1 ⟨rfl, rfl⟩))
  all_goals
    go_ret
    exact ⟨rfl, HB.out⟩
set_option maxRecDepth 100000 in
theorem rinside_bad3 (A a : ByteArray) (b : Int) (w : World) (hA : adB A = true) (hs : a.size = A.size) (hb : b < 0) : Calls Try.prog 8 #[.agg #[.string A, .int .i64 b], .string a] w fun e w' => e = .returned (.bool false) ∧ Below w.heap.size w w' := by
  have H := hidq (address_any A)
  have HB := hidq ((Below.refl w.heap.size w).alloc (Nat.le_refl _) (.cells #[.string A, .int .i64 b] 23))
  have hA' := hA
  have hs' := hs
  have hB : adB a = true := by unfold adB at hA' ⊢; rw [hs']; exact hA'
  have H2 := hidq (address_any a)
  rw [hB] at H2
  clear hA' hs' hB
  rw [hA] at H
  obtain ⟨n, hn⟩ : ∃ n, A.size = n := ⟨_, rfl⟩
  rw [hn] at hs
  have hne : ((n : Int) != (n : Int)) = false := by simp
  have e1 : decide (b < 0) = true := by simp; omega
  clear hA hb
  go_enter Try.func8, Try.ntmps8
  go_wp2_with (first
    | (go_at_call 15; (with_reducible refine (H.out _).mono ?_); rintro e w1 ⟨rfl, rfl⟩)
    | (go_at_call 15; (with_reducible refine (H2.out _).mono ?_); rintro e w1 ⟨rfl, rfl⟩))
  all_goals
    go_ret
    exact ⟨rfl, HB.out⟩
set_option maxRecDepth 100000 in
theorem inside_bad4 (A a : ByteArray) (b : Int) (w : World) (hA : adB A = true) (hs : a.size = A.size) (h0 : 0 ≤ b) (h1 : 8 * (A.size : Int) < b) : Calls Try.prog 7 #[.agg #[.string A, .int .i64 b], .string a] w fun e w' => e = .returned (.bool false) ∧ Below w.heap.size w w' := by
  have H := hidq (isAddress_any A)
  have HB := hidq ((Below.refl w.heap.size w).alloc (Nat.le_refl _) (.cells #[.string A, .int .i64 b] 23))
  rw [hA] at H
  have hz : A.size ≤ 16 := by unfold adB at hA; simp at hA; omega
  obtain ⟨n, hn⟩ : ∃ n, A.size = n := ⟨_, rfl⟩
  rw [hn] at hs h1 hz
  have hm : IntKind.i64.wrap (8 * (n : Int)) = 8 * (n : Int) := by rw [IntKind.wrap_i64]; omega
  have hne : ((n : Int) != (n : Int)) = false := by simp
  have e1 : decide (b < 0) = false := by simp; omega
  have e2 : decide (8 * (n : Int) < b) = true := by simp; omega
  clear hA h0 h1
  go_enter Try.func7, Try.ntmps7
  go_wp2_with (first
    | (go_at_call 14; (with_reducible refine (H.out _).mono ?_); rintro e w1 ⟨rfl, rfl⟩))
  all_goals
    go_ret
    exact ⟨rfl, HB.out⟩
set_option maxRecDepth 100000 in
theorem rinside_bad4 (A a : ByteArray) (b : Int) (w : World) (hA : adB A = true) (hs : a.size = A.size) (h0 : 0 ≤ b) (h1 : 8 * (A.size : Int) < b) : Calls Try.prog 8 #[.agg #[.string A, .int .i64 b], .string a] w fun e w' => e = .returned (.bool false) ∧ Below w.heap.size w w' := by
  have H := hidq (address_any A)
  have HB := hidq ((Below.refl w.heap.size w).alloc (Nat.le_refl _) (.cells #[.string A, .int .i64 b] 23))
  have hA' := hA
  have hs' := hs
  have hB : adB a = true := by unfold adB at hA' ⊢; rw [hs']; exact hA'
  have H2 := hidq (address_any a)
  rw [hB] at H2
  clear hA' hs' hB
  rw [hA] at H
  have hz : A.size ≤ 16 := by unfold adB at hA; simp at hA; omega
  obtain ⟨n, hn⟩ : ∃ n, A.size = n := ⟨_, rfl⟩
  rw [hn] at hs h1 hz
  have hm : IntKind.i64.wrap (8 * (n : Int)) = 8 * (n : Int) := by rw [IntKind.wrap_i64]; omega
  have hne : ((n : Int) != (n : Int)) = false := by simp
  have e1 : decide (b < 0) = false := by simp; omega
  have e2 : decide (8 * (n : Int) < b) = true := by simp; omega
  clear hA h0 h1
  go_enter Try.func8, Try.ntmps8
  go_wp2_with (first
    | (go_at_call 15; (with_reducible refine (H.out _).mono ?_); rintro e w1 ⟨rfl, rfl⟩)
    | (go_at_call 15; (with_reducible refine (H2.out _).mono ?_); rintro e w1 ⟨rfl, rfl⟩))
  all_goals
    go_ret
    exact ⟨rfl, HB.out⟩

theorem rt_cases (A : ByteArray) (b : Int) (a : ByteArray) (h : rtB A b a = false) : adB A = false ∨ (adB A = true ∧ ((a.size : Int) != (A.size : Int)) = true) ∨ (adB A = true ∧ a.size = A.size ∧ b < 0) ∨ (adB A = true ∧ a.size = A.size ∧ 0 ≤ b ∧ 8 * (A.size : Int) < b) := by
  cases hA : adB A with
  | false => exact .inl rfl
  | true =>
    right
    by_cases hs : a.size = A.size
    · right
      by_cases h0 : b < 0
      · exact .inl ⟨rfl, hs, h0⟩
      · by_cases h1 : 8 * (A.size : Int) < b
        · exact .inr ⟨rfl, hs, by omega, h1⟩
        · exfalso
          unfold rtB at h
          simp [hA, hs] at h
          omega
    · left
      refine ⟨rfl, ?_⟩
      simp
      omega
theorem inside_bad (A a : ByteArray) (b : Int) (w : World) (h : rtB A b a = false) : Calls Try.prog 7 #[.agg #[.string A, .int .i64 b], .string a] w fun e w' => e = .returned (.bool false) ∧ Below w.heap.size w w' := by
  rcases rt_cases A b a h with h | ⟨h, h2⟩ | ⟨h, h2, h3⟩ | ⟨h, h2, h3, h4⟩
  · exact inside_bad1 A a b w h
  · exact inside_bad2 A a b w h h2
  · exact inside_bad3 A a b w h h2 h3
  · exact inside_bad4 A a b w h h2 h3 h4
theorem rinside_bad (A a : ByteArray) (b : Int) (w : World) (h : rtB A b a = false) : Calls Try.prog 8 #[.agg #[.string A, .int .i64 b], .string a] w fun e w' => e = .returned (.bool false) ∧ Below w.heap.size w w' := by
  rcases rt_cases A b a h with h | ⟨h, h2⟩ | ⟨h, h2, h3⟩ | ⟨h, h2, h3, h4⟩
  · exact rinside_bad1 A a b w h
  · exact rinside_bad2 A a b w h h2
  · exact rinside_bad3 A a b w h h2 h3
  · exact rinside_bad4 A a b w h h2 h3 h4
theorem rt_good {A : ByteArray} {b : Int} {a : ByteArray} (h : rtB A b a = true) : adB A = true ∧ adB a = true ∧ a.size = A.size ∧ 0 ≤ b ∧ b ≤ 8 * (A.size : Int) ∧ A.size ≤ 16 := by
  unfold rtB at h
  simp at h
  obtain ⟨⟨⟨h1, h2⟩, h3⟩, h4⟩ := h
  have h2' : a.size = A.size := by omega
  refine ⟨h1, ?_, h2', h3, h4, ?_⟩
  · unfold adB at h1 ⊢
    rw [h2']
    exact h1
  · unfold adB at h1
    simp at h1
    omega
end Go.Proofs.Ytdaimcccdleodaa
