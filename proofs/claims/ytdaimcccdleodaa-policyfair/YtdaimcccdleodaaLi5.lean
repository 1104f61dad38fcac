import Derived.Test.YtdaimcccdleodaaLi3
import Derived.Test.YtdaimcccdleodaaLi4
/-
  Chapter 15: policy.Inside, whole. (The verifier's own text.)
-/
namespace Go.Proofs.Ytdaimcccdleodaa
set_option linter.unusedVariables false
set_option linter.unusedSimpArgs false
open Go.RowKit Go.Shelf

theorem div_zero_b {z d : Nat} : (((z : Int) / (d : Int)) == 0) = decide (z / d = 0) := by
  have e : (z : Int) / (d : Int) = ((z / d : Nat) : Int) := by simp
  rw [e]
  by_cases h : z / d = 0
  · simp [h]
  · have : ¬ ((z / d : Nat) : Int) = 0 := by omega
    rw [decide_eq_false h]
    exact beq_false_of_ne this
theorem ag_cases {A a : ByteArray} {b : Int} {q r : Nat} (hs : a.size = A.size) (hq : q ≤ A.size) (hr : r < 8) (hb : b = 8 * (q : Int) + (r : Int)) :
    agB A a b.toNat = (((a.extract 0 q).toList == (A.extract 0 q).toList) && decide ((bv a q ^^^ bv A q) / 2 ^ (8 - r) = 0)) := by
  have hn : b.toNat = 8 * q + r := by omega
  rw [hn]
  apply Bool.eq_iff_iff.2
  rw [ag_iff, ag_bytes hr, Bool.and_eq_true, bv_ext hs hq, decide_eq_true_iff, xor_top (bv_lt _ _) (bv_lt _ _) (by omega)]
/-- policy.Inside -/
theorem inside_any (A a : ByteArray) (b : Int) (w : World) : Calls Try.prog 7 #[.agg #[.string A, .int .i64 b], .string a] w fun e w' => e = .returned (.bool (insB A b a)) ∧ Below w.heap.size w w' := by
  unfold insB
  cases h : rtB A b a with
  | false => exact inside_bad A a b w h
  | true =>
    rw [Bool.true_and]
    obtain ⟨hA, ha, hs, h0, h1, hz⟩ := rt_good h
    obtain ⟨q, hqe⟩ : ∃ q : Nat, (q : Int) = b / 8 := ⟨(b / 8).toNat, by omega⟩
    obtain ⟨r, hre⟩ : ∃ r : Nat, (r : Int) = b % 8 := ⟨(b % 8).toNat, by omega⟩
    have hq : b.tdiv 8 = (q : Int) := by rw [Int.tdiv_eq_ediv_of_nonneg h0, hqe]
    have hr : b.tmod 8 = (r : Int) := by rw [Int.tmod_eq_emod_of_nonneg h0, hre]
    have hqn : q ≤ A.size := by omega
    have hr8 : r < 8 := by omega
    have hb : b = 8 * (q : Int) + (r : Int) := by omega
    rw [ag_cases hs hqn hr8 hb]
    cases hd : ((a.extract 0 q).toList == (A.extract 0 q).toList) with
    | false => exact inside_dif A a b q r w h hq hr hqn hr8 hb hd
    | true =>
      rw [Bool.true_and]
      have hx : bv a q ^^^ bv A q < 2 ^ 8 := Nat.xor_lt_two_pow (bv_lt _ _) (bv_lt _ _)
      match r, hr8 with
      | 0, _ =>
        rw [decide_eq_true (show (bv a q ^^^ bv A q) / 2 ^ (8 - 0) = 0 from Nat.div_eq_of_lt hx)]
        exact inside_0 A a b q w h hq hr hqn hb hd
      | 1, _ =>
        have := inside_1 A a b q w h hq hr hqn hb hd
        rw [show (128 : Int) = ((128 : Nat) : Int) from rfl, div_zero_b] at this
        exact this
      | 2, _ =>
        have := inside_2 A a b q w h hq hr hqn hb hd
        rw [show (64 : Int) = ((64 : Nat) : Int) from rfl, div_zero_b] at this
        exact this
      | 3, _ =>
        have := inside_3 A a b q w h hq hr hqn hb hd
        rw [show (32 : Int) = ((32 : Nat) : Int) from rfl, div_zero_b] at this
        exact this
      | 4, _ =>
        have := inside_4 A a b q w h hq hr hqn hb hd
        rw [show (16 : Int) = ((16 : Nat) : Int) from rfl, div_zero_b] at this
        exact this
      | 5, _ =>
        have := inside_5 A a b q w h hq hr hqn hb hd
        rw [show (8 : Int) = ((8 : Nat) : Int) from rfl, div_zero_b] at this
        exact this
      | 6, _ =>
        have := inside_6 A a b q w h hq hr hqn hb hd
        rw [show (4 : Int) = ((4 : Nat) : Int) from rfl, div_zero_b] at this
        exact this
      | 7, _ =>
        have := inside_7 A a b q w h hq hr hqn hb hd
        rw [show (2 : Int) = ((2 : Nat) : Int) from rfl, div_zero_b] at this
        exact this
end Go.Proofs.Ytdaimcccdleodaa
