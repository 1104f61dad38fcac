import Derived.Test.YtkeibncmgplgkaaDoorMath11
namespace Go.Proofs.YtkeibncmgplgkaaDoor.Nm
set_option linter.unusedVariables false

def parB (s : ByteArray) : ByteArray := tailB s (cntI s - 1)
theorem parB_no {s : ByteArray} (h : isN s = false) : parB s = ByteArray.empty := tailB_no (fun e => by rw [h] at e; cases e.1)
theorem parB_root {s : ByteArray} (h : isN s = true) (hl : (labs s).length = 0) : parB s = ByteArray.empty := by
  unfold parB; rw [cntI_yes h, hl]; exact tailB_no (fun e => by have := e.2.1; omega)
theorem parB_yes {s : ByteArray} (h : isN s = true) (hl : 0 < (labs s).length) : parB s = putB ((labs s).drop 1) := by
  unfold parB
  rw [cntI_yes h, show (((labs s).length : Nat) : Int) - 1 = (((labs s).length - 1 : Nat) : Int) by omega, (tailB_yes h (by omega)).2.2]
  congr 2; omega

def starB (s : ByteArray) : ByteArray := if isN s = true ∧ s.size ≤ 253 then ⟨#[1, 42]⟩ ++ s else ByteArray.empty
theorem starB_yes {s : ByteArray} (h : isN s = true) (hz : s.size ≤ 253) : starB s = ⟨#[1, 42]⟩ ++ s := by unfold starB; rw [if_pos ⟨h, hz⟩]
theorem starB_no {s : ByteArray} (h : ¬ (isN s = true ∧ s.size ≤ 253)) : starB s = ByteArray.empty := by unfold starB; rw [if_neg h]
theorem chunk_star : chunk ⟨#[42]⟩ = ⟨#[1, 42]⟩ := by
  apply ba_ext
  · rw [chunk_size]; rfl
  · intro j hj
    rw [chunk_size, show (⟨#[42]⟩ : ByteArray).size = 1 from rfl] at hj
    have : j = 0 ∨ j = 1 := by omega
    rcases this with rfl | rfl
    · rw [bt_chunk _ (by decide)]; rfl
    · have := bt_append_right ⟨#[UInt8.ofNat (⟨#[42]⟩ : ByteArray).size]⟩ ⟨#[42]⟩ 1 (Nat.le_refl 1)
      unfold chunk; rw [this]; rfl
theorem starB_put {s : ByteArray} (h : isN s = true) : putB (⟨#[42]⟩ :: labs s) = ⟨#[1, 42]⟩ ++ s := by
  rw [putB_cons, putB_labs h, chunk_star]

/-- the first label is the star -/
def isStarB (s : ByteArray) : Bool := isN s && decide (bt s 0 = 1 ∧ bt s 1 = 42)
theorem toList_bt (a b : ByteArray) : (a.toList == b.toList) = decide (a = b) := by
  rw [Bool.eq_iff_iff, beq_iff_eq, toList_inj, decide_eq_true_iff]
theorem prefix_star {s : ByteArray} (hz : 2 ≤ s.size) : ((s.extract 0 2).toList == [1, 42]) = decide (bt s 0 = 1 ∧ bt s 1 = 42) := by
  have e : ([1, 42] : List UInt8) = (⟨#[1, 42]⟩ : ByteArray).toList := by rw [toList_eq]
  rw [e, toList_bt]
  rw [Bool.eq_iff_iff, decide_eq_true_iff, decide_eq_true_iff]
  constructor
  · intro h
    have h0 := congrArg (fun t => bt t 0) h
    have h1 := congrArg (fun t => bt t 1) h
    rw [bt_extract _ _ _ _ (by omega) hz] at h0 h1
    exact ⟨h0, h1⟩
  · rintro ⟨h0, h1⟩
    apply ba_ext
    · rw [size_extract' _ _ _ hz]; rfl
    · intro j hj
      rw [size_extract' _ _ _ hz] at hj
      rw [bt_extract _ _ _ _ (by omega) hz]
      have : j = 0 ∨ j = 1 := by omega
      rcases this with rfl | rfl
      · exact h0
      · exact h1
theorem isStar_first {s : ByteArray} (h : isN s = true) (hl : 0 < (labs s).length) : ((labs s)[0].toList == [42]) = decide (bt s 0 = 1 ∧ bt s 1 = 42) := by
  have hg : GoodL s 0 := by
    by_cases g : GoodL s 0
    · exact g
    · unfold labs at hl; rw [labsFrom_bad g] at hl; simp at hl
  have e : (labs s)[0] = s.extract 1 (1 + bt s 0) := by
    have this : labs s = s.extract (0 + 1) (0 + 1 + bt s 0) :: labsFrom s (0 + 1 + bt s 0) := labsFrom_good hg
    have h0 : (labs s)[0]? = some (s.extract (0 + 1) (0 + 1 + bt s 0)) := by rw [this]; rfl
    rw [List.getElem?_eq_getElem hl] at h0
    rw [Option.some.inj h0, Nat.zero_add]
  have e42 : ([42] : List UInt8) = (⟨#[42]⟩ : ByteArray).toList := by rw [toList_eq]
  have hr := hg.room
  rw [e, e42, toList_bt, Bool.eq_iff_iff, decide_eq_true_iff, decide_eq_true_iff]
  constructor
  · intro h2
    have hz := congrArg ByteArray.size h2
    rw [size_extract' _ _ _ (by omega), show (⟨#[42]⟩ : ByteArray).size = 1 from rfl] at hz
    have h0 := congrArg (fun t => bt t 0) h2
    rw [bt_extract _ _ _ _ (by omega) (by omega)] at h0
    exact ⟨by omega, h0⟩
  · rintro ⟨h0, h1⟩
    apply ba_ext
    · rw [size_extract' _ _ _ (by omega), h0]; rfl
    · intro j hj
      rw [size_extract' _ _ _ (by omega)] at hj
      rw [bt_extract _ _ _ _ (by omega) (by omega)]
      have : j = 0 := by omega
      subst this
      exact h1
theorem isStar_short {s : ByteArray} (h : isN s = true) (hl : (labs s).length = 0) : bt s 0 = 0 ∧ s.size = 1 := by
  have hg : ¬ GoodL s 0 := fun g => by unfold labs at hl; rw [labsFrom_good g] at hl; simp at hl
  have := (isN_iff s).1 h
  rw [fin_bad hg] at this
  exact ⟨this.2.2, this.2.1.symm⟩
theorem isStar_long {s : ByteArray} (h : isN s = true) (hl : 0 < (labs s).length) : 3 ≤ s.size := by
  have h1 := putB_labs h
  have h2 := putB_size (labs s)
  rw [h1] at h2
  cases hL : labs s with
  | nil => rw [hL] at hl; simp at hl
  | cons x l =>
    have hx := labs_mem (s := s) (x := x) (by rw [hL]; simp)
    rw [hL, chunks_cons, ByteArray.size_append, chunk_size] at h2
    omega
end Go.Proofs.YtkeibncmgplgkaaDoor.Nm
