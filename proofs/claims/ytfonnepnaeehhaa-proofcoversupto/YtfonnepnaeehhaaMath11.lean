import Derived.Test.YtfonnepnaeehhaaMath10
namespace Go.Proofs.Ytfonnepnaeehhaa.Nm
set_option linter.unusedVariables false

/-- the last k labels of both are the same -/
def SameK (X Y : List ByteArray) (k : Nat) : Prop := k ≤ X.length ∧ k ≤ Y.length ∧ ∀ j, j < k → X[X.length - 1 - j]? = Y[Y.length - 1 - j]?
def stN (X Y : List ByteArray) : Nat → Nat
  | 0 => 0
  | k + 1 => if X.drop (X.length - (k + 1)) = Y.drop (Y.length - (k + 1)) then k + 1 else stN X Y k
/-- within the last k labels of a: b has them too -/
theorem within_tail {a b : ByteArray} (ha : isN a = true) {k : Nat} (hk : k ≤ (labs a).length) :
    withinB b (tailB a k) = true ↔ isN b = true ∧ k ≤ (labs b).length ∧ ((labs b).map lowB).drop ((labs b).length - k) = ((labs a).map lowB).drop ((labs a).length - k) := by
  obtain ⟨t1, t2, t3⟩ := tailB_yes ha hk
  rw [withinB_iff, t2]
  have hl : ((labs a).drop ((labs a).length - k)).length = k := by rw [List.length_drop]; omega
  rw [hl, List.map_drop, List.map_drop]
  constructor
  · rintro ⟨h1, _, h3, h4⟩; exact ⟨h1, h3, h4⟩
  · rintro ⟨h1, h3, h4⟩; exact ⟨h1, t1, h3, h4⟩
theorem st_drop {X Y : List ByteArray} {k : Nat} (h1 : k ≤ X.length) (h2 : k ≤ Y.length) (h : ∀ j, j < k → X[X.length - 1 - j]? = Y[Y.length - 1 - j]?) : Y.drop (Y.length - k) = X.drop (X.length - k) := by
  apply List.ext_getElem?
  intro i
  rw [List.getElem?_drop, List.getElem?_drop]
  by_cases hi : i < k
  · have := h (k - 1 - i) (by omega)
    rw [show X.length - 1 - (k - 1 - i) = X.length - k + i by omega, show Y.length - 1 - (k - 1 - i) = Y.length - k + i by omega] at this
    exact this.symm
  · rw [List.getElem?_eq_none (by omega), List.getElem?_eq_none (by omega)]
theorem drop_st {X Y : List ByteArray} {k : Nat} (h1 : k ≤ X.length) (h2 : k ≤ Y.length) (h : Y.drop (Y.length - k) = X.drop (X.length - k)) : ∀ j, j < k → X[X.length - 1 - j]? = Y[Y.length - 1 - j]? := by
  intro j hj
  have := congrArg (fun l => l[k - 1 - j]?) h
  simp only [List.getElem?_drop] at this
  rw [show X.length - k + (k - 1 - j) = X.length - 1 - j by omega, show Y.length - k + (k - 1 - j) = Y.length - 1 - j by omega] at this
  exact this.symm


/-- the longest name that both are within -/
def comB (a b : ByteArray) : ByteArray :=
  match (List.range ((labs a).length + 1)).reverse.find? (fun k => withinB b (tailB a (k : Nat))) with
  | some k => tailB a (k : Nat)
  | none => ByteArray.empty
theorem find_down (p : Nat → Bool) : ∀ n : Nat, (∃ k, (List.range (n + 1)).reverse.find? p = some k ∧ p k = true ∧ k ≤ n ∧ ∀ j, k < j → j ≤ n → p j = false) ∨ ((List.range (n + 1)).reverse.find? p = none ∧ ∀ j, j ≤ n → p j = false)
  | 0 => by
    cases h : p 0 with
    | true => left; exact ⟨0, by simp [List.range_succ, h], h, Nat.le_refl _, fun j h1 h2 => by omega⟩
    | false => right; exact ⟨by simp [List.range_succ, h], fun j hj => by rw [show j = 0 by omega]; exact h⟩
  | n + 1 => by
    have e : (List.range (n + 1 + 1)).reverse = (n + 1) :: (List.range (n + 1)).reverse := by rw [List.range_succ, List.reverse_append]; rfl
    rw [e, List.find?_cons]
    cases h : p (n + 1) with
    | true => left; exact ⟨n + 1, rfl, h, Nat.le_refl _, fun j h1 h2 => by omega⟩
    | false =>
      rcases find_down p n with ⟨k, h1, h2, h3, h4⟩ | ⟨h1, h2⟩
      · left
        refine ⟨k, h1, h2, by omega, fun j h5 h6 => ?_⟩
        by_cases e2 : j = n + 1
        · rw [e2]; exact h
        · exact h4 j h5 (by omega)
      · right
        refine ⟨h1, fun j hj => ?_⟩
        by_cases e2 : j = n + 1
        · rw [e2]; exact h
        · exact h2 j (by omega)
theorem comB_found {a b : ByteArray} {k : Int} (h : withinB b (tailB a k) = true) (hn : ∀ j : Int, k < j → j ≤ (labs a).length → withinB b (tailB a j) = false) : comB a b = tailB a k := by
  have hk : isN a = true ∧ 0 ≤ k ∧ k ≤ (labs a).length := by
    by_cases hc : isN a = true ∧ 0 ≤ k ∧ k ≤ (labs a).length
    · exact hc
    · rw [tailB_no hc] at h
      have := ((withinB_iff _ _).1 h).2.1
      rw [isN_empty] at this; cases this
  obtain ⟨h1, h2, h3⟩ := hk
  obtain ⟨q, rfl⟩ := Int.eq_ofNat_of_zero_le h2
  unfold comB
  rcases find_down (fun k => withinB b (tailB a (k : Nat))) (labs a).length with ⟨m, e1, e2, e3, e4⟩ | ⟨e1, e2⟩
  · rw [e1]
    have : m = q := by
      rcases Nat.lt_trichotomy m q with hl | hl | hl
      · have := e4 q hl (by omega); rw [h] at this; cases this
      · exact hl
      · have := hn m (by omega) (by omega); rw [e2] at this; cases this
    rw [this]
  · have := e2 q (by omega); rw [h] at this; cases this
theorem comB_none {a b : ByteArray} (hn : ∀ j : Int, 0 ≤ j → j ≤ (labs a).length → withinB b (tailB a j) = false) : comB a b = ByteArray.empty := by
  unfold comB
  rcases find_down (fun k => withinB b (tailB a (k : Nat))) (labs a).length with ⟨m, e1, e2, e3, e4⟩ | ⟨e1, e2⟩
  · have := hn m (by omega) (by omega); rw [e2] at this; cases this
  · rw [e1]
theorem comB_no {a b : ByteArray} (h : ¬ (isN a = true ∧ isN b = true)) : comB a b = ByteArray.empty := by
  apply comB_none
  intro j h1 h2
  cases hw : withinB b (tailB a j) with
  | false => rfl
  | true =>
    have w1 := (withinB_iff _ _).1 hw
    have : isN a = true := by
      by_cases hc : isN a = true ∧ 0 ≤ j ∧ j ≤ (labs a).length
      · exact hc.1
      · rw [tailB_no hc, isN_empty] at w1; cases w1.2.1
    exact absurd ⟨this, w1.1⟩ h
theorem comB_st {a b : ByteArray} (ha : isN a = true) (hb : isN b = true) {k : Nat} (h : IsST ((labs a).map lowB) ((labs b).map lowB) k) : comB a b = tailB a k := by
  have lx := h.lx
  have ly := h.ly
  simp at lx ly
  apply comB_found (k := (k : Nat))
  · rw [within_tail ha lx]
    refine ⟨hb, ly, ?_⟩
    have := st_drop h.lx h.ly h.same
    simpa using this
  · intro j h1 h2
    obtain ⟨q, rfl⟩ := Int.eq_ofNat_of_zero_le (show 0 ≤ j by omega)
    cases hw : withinB b (tailB a (q : Nat)) with
    | false => rfl
    | true =>
      obtain ⟨_, w2, w3⟩ := (within_tail ha (by omega)).1 hw
      have hd := drop_st (X := (labs a).map lowB) (Y := (labs b).map lowB) (k := q) (by simp; omega) (by simp; omega) (by simpa using w3)
      exact absurd (hd k (by omega)) (h.parts (by simp; omega) (by simp; omega))
end Go.Proofs.Ytfonnepnaeehhaa.Nm
