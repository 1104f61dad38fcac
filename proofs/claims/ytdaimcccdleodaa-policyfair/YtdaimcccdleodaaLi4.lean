import Derived.Test.YtdaimcccdleodaaLi2
/-
  Chapter 15: both nets are one. (The verifier's own text.)
-/
namespace Go.Proofs.Ytdaimcccdleodaa
set_option linter.unusedVariables false
set_option linter.unusedSimpArgs false
open Go.RowKit Go.Shelf

theorem mod2_testBit (x i : Nat) : x / 2 ^ i % 2 = (x.testBit i).toNat := by
  rw [Nat.testBit_eq_decide_div_mod_eq]
  have : x / 2 ^ i % 2 < 2 := Nat.mod_lt _ (by omega)
  by_cases h : x / 2 ^ i % 2 = 1
  · simp [h]
  · have h0 : x / 2 ^ i % 2 = 0 := by omega
    simp [h0]
theorem toNat_inj' {a b : Bool} (h : a.toNat = b.toNat) : a = b := by cases a <;> cases b <;> simp_all
theorem xor_top {x y m : Nat} (hx : x < 256) (hy : y < 256) (hm : m ≤ 8) : (x ^^^ y) / 2 ^ (8 - m) = 0 ↔ ∀ j, j < m → x / 2 ^ (7 - j) % 2 = y / 2 ^ (7 - j) % 2 := by
  rw [Nat.div_eq_zero_iff]
  have hp : 0 < 2 ^ (8 - m) := Nat.pow_pos (by omega)
  constructor
  · intro h j hj
    rw [mod2_testBit, mod2_testBit]
    have hlt : x ^^^ y < 2 ^ (8 - m) := by omega
    have hb : (x ^^^ y).testBit (7 - j) = false := Nat.testBit_lt_two_pow (Nat.lt_of_lt_of_le hlt (Nat.pow_le_pow_right (by omega) (by omega)))
    rw [Nat.testBit_xor] at hb
    cases h1 : x.testBit (7 - j) <;> cases h2 : y.testBit (7 - j) <;> simp_all
  · intro h
    right
    apply Nat.lt_pow_two_of_testBit
    intro i hi
    rw [Nat.testBit_xor]
    by_cases h8 : i < 8
    · have := h (7 - i) (by omega)
      rw [show 7 - (7 - i) = i by omega, mod2_testBit, mod2_testBit] at this
      rw [toNat_inj' this]
      simp
    · have e1 : x.testBit i = false := Nat.testBit_lt_two_pow (Nat.lt_of_lt_of_le hx (Nat.pow_le_pow_right (n := 2) (by omega) (show 8 ≤ i by omega)))
      have e2 : y.testBit i = false := Nat.testBit_lt_two_pow (Nat.lt_of_lt_of_le hy (Nat.pow_le_pow_right (n := 2) (by omega) (show 8 ≤ i by omega)))
      rw [e1, e2]
      rfl
theorem xor_all {x y : Nat} (hx : x < 256) (hy : y < 256) : x = y ↔ ∀ j, j < 8 → x / 2 ^ (7 - j) % 2 = y / 2 ^ (7 - j) % 2 := by
  rw [← xor_top hx hy (Nat.le_refl 8)]
  simp only [Nat.sub_self, Nat.pow_zero, Nat.div_one]
  constructor
  · rintro rfl
    exact Nat.xor_self x
  · intro h
    apply Nat.eq_of_testBit_eq
    intro i
    have hb : (x ^^^ y).testBit i = false := by rw [h]; simp
    rw [Nat.testBit_xor] at hb
    cases h1 : x.testBit i <;> cases h2 : y.testBit i <;> simp_all
theorem ba_extract (s : ByteArray) (q : Nat) : (s.extract 0 q).toList = s.data.toList.take q := by
  simp [ByteArray.toList_eq, ByteArray.data_extract, List.extract_eq_drop_take']
theorem bv_ext {A a : ByteArray} {q : Nat} (hs : a.size = A.size) (hq : q ≤ A.size) : ((a.extract 0 q).toList == (A.extract 0 q).toList) = true ↔ ∀ i, i < q → bv a i = bv A i := by
  rw [ba_extract, ba_extract, beq_iff_eq]
  have la : a.data.toList.length = a.size := rfl
  have lA : A.data.toList.length = A.size := rfl
  constructor
  · intro h i hi
    have := congrArg (fun l => l.getD i 0) h
    simp only [List.getD_eq_getElem?_getD, List.getElem?_take, hi, if_true] at this
    unfold bv
    rw [List.getD_eq_getElem?_getD, List.getD_eq_getElem?_getD, this]
  · intro h
    apply List.ext_getElem
    · simp only [List.length_take]; omega
    · intro i h1 h2
      have hi : i < q := by rw [List.length_take] at h1; omega
      have := h i hi
      unfold bv at this
      have := UInt8.toNat_inj.1 this
      rw [List.getElem_take, List.getElem_take]
      rw [List.getD_eq_getElem?_getD, List.getD_eq_getElem?_getD, List.getElem?_eq_getElem (by omega), List.getElem?_eq_getElem (by omega)] at this
      exact this
theorem ag_bytes {A a : ByteArray} {q r : Nat} (hr : r < 8) : (∀ k, k < 8 * q + r → bitN A k = bitN a k) ↔ (∀ i, i < q → bv a i = bv A i) ∧ (∀ j, j < r → bv a q / 2 ^ (7 - j) % 2 = bv A q / 2 ^ (7 - j) % 2) := by
  constructor
  · intro h
    refine ⟨fun i hi => ?_, fun j hj => ?_⟩
    · rw [xor_all (bv_lt _ _) (bv_lt _ _)]
      intro j hj
      have := h (8 * i + j) (by omega)
      unfold bitN at this
      rw [show (8 * i + j) / 8 = i by omega, show (8 * i + j) % 8 = j by omega] at this
      exact this.symm
    · have := h (8 * q + j) (by omega)
      unfold bitN at this
      rw [show (8 * q + j) / 8 = q by omega, show (8 * q + j) % 8 = j by omega] at this
      exact this.symm
  · rintro ⟨h1, h2⟩ k hk
    unfold bitN
    by_cases hq : k / 8 < q
    · rw [h1 (k / 8) hq]
    · have e : k / 8 = q := by omega
      rw [e]
      exact (h2 (k % 8) (by omega)).symm
end Go.Proofs.Ytdaimcccdleodaa
