import Derived.Test.YtgekfhghambacaaGreatMathG
import Derived.Lib.Bytealg
namespace Go.Proofs.YtgekfhghambacaaGreat.Nm
set_option linter.unusedVariables false

/-- k labels, from the last one on, are the same, and no more -/
structure IsST (x y : List ByteArray) (k : Nat) : Prop where
  lx : k ≤ x.length
  ly : k ≤ y.length
  same : ∀ j, j < k → x[x.length - 1 - j]? = y[y.length - 1 - j]?
  parts : k < x.length → k < y.length → x[x.length - 1 - k]? ≠ y[y.length - 1 - k]?
end Go.Proofs.YtgekfhghambacaaGreat.Nm

namespace Go.Proofs.YtgekfhghambacaaGreat.Nm
set_option linter.unusedVariables false


theorem cbl_zero : ∀ l m : List UInt8, Go.Lib.compareBytes l m = 0 ↔ l = m
  | [], [] => by simp [Go.Lib.compareBytes]
  | [], _ :: _ => by simp [Go.Lib.compareBytes]
  | _ :: _, [] => by simp [Go.Lib.compareBytes]
  | a :: l, b :: m => by
    unfold Go.Lib.compareBytes
    split
    · rename_i h
      simp only [List.cons.injEq]
      constructor
      · intro h; cases h
      · rintro ⟨rfl, _⟩; exact absurd h (UInt8.lt_irrefl _)
    · split
      · rename_i h
        simp only [List.cons.injEq]
        constructor
        · intro h; cases h
        · rintro ⟨rfl, _⟩; exact absurd h (UInt8.lt_irrefl _)
      · rename_i h1 h2
        have : a = b := UInt8.le_antisymm (UInt8.not_lt.1 h2) (UInt8.not_lt.1 h1)
        subst this
        rw [cbl_zero l m]; simp
theorem cbl_range : ∀ l m : List UInt8, Go.Lib.compareBytes l m = -1 ∨ Go.Lib.compareBytes l m = 0 ∨ Go.Lib.compareBytes l m = 1
  | [], [] => by simp [Go.Lib.compareBytes]
  | [], _ :: _ => by simp [Go.Lib.compareBytes]
  | _ :: _, [] => by simp [Go.Lib.compareBytes]
  | a :: l, b :: m => by
    unfold Go.Lib.compareBytes
    split
    · exact .inl rfl
    · split
      · exact .inr (.inr rfl)
      · exact cbl_range l m
theorem cbl_less : ∀ l m : List UInt8, Go.Op.bytesLess l m = decide (Go.Lib.compareBytes l m = -1)
  | [], [] => by simp [Go.Lib.compareBytes, Go.Op.bytesLess]
  | [], _ :: _ => by simp [Go.Lib.compareBytes, Go.Op.bytesLess]
  | _ :: _, [] => by simp [Go.Lib.compareBytes, Go.Op.bytesLess]
  | a :: l, b :: m => by
    unfold Go.Lib.compareBytes Go.Op.bytesLess
    split
    · rename_i h; simp [h]
    · rename_i h
      split
      · rename_i h2
        have : ¬ a = b := fun e => by subst e; exact UInt8.lt_irrefl _ h2
        simp [h, this]
      · rename_i h2
        have : a = b := UInt8.le_antisymm (UInt8.not_lt.1 h2) (UInt8.not_lt.1 h)
        subst this
        rw [cbl_less l m]; simp
/-- two labels -/
def cb (a b : ByteArray) : Int := Go.Lib.compareBytes a.data.toList b.data.toList
theorem cb_zero (a b : ByteArray) : cb a b = 0 ↔ a = b := by
  unfold cb
  rw [cbl_zero]
  constructor
  · intro h; apply ByteArray.ext; exact Array.toList_inj.1 h
  · intro h; rw [h]
theorem cb_range (a b : ByteArray) : cb a b = -1 ∨ cb a b = 0 ∨ cb a b = 1 := cbl_range _ _
theorem cb_less (a b : ByteArray) : Go.Op.bytesLess a.toList b.toList = decide (cb a b = -1) := by rw [toList_eq, toList_eq]; exact cbl_less _ _
/-- rows of labels, from the last one on -/
def cmpL : List ByteArray → List ByteArray → Int
  | [], [] => 0
  | [], _ :: _ => -1
  | _ :: _, [] => 1
  | a :: l, b :: m => if cb a b = 0 then cmpL l m else cb a b

theorem cmpL_drop : ∀ (k : Nat) (P Q : List ByteArray), k ≤ P.length → k ≤ Q.length → (∀ j, j < k → P[j]? = Q[j]?) → cmpL P Q = cmpL (P.drop k) (Q.drop k)
  | 0, P, Q, _, _, _ => rfl
  | k + 1, [], Q, h, _, _ => by simp at h
  | k + 1, _ :: _, [], _, h, _ => by simp at h
  | k + 1, p :: P, q :: Q, h1, h2, hs => by
    have h0 := hs 0 (by omega)
    simp at h0
    subst h0
    rw [List.drop_succ_cons, List.drop_succ_cons, ← cmpL_drop k P Q (by simpa using h1) (by simpa using h2) (fun j hj => by simpa using hs (j + 1) (by omega))]
    simp [cmpL, (cb_zero p p).2 rfl]

theorem rev_get (X : List ByteArray) (j : Nat) (h : j < X.length) : X.reverse[j]? = X[X.length - 1 - j]? := by
  rw [List.getElem?_reverse h]

theorem IsST.cmp {X Y : List ByteArray} {k : Nat} (h : IsST X Y k) :
    cmpL X.reverse Y.reverse = cmpL (X.reverse.drop k) (Y.reverse.drop k) := by
  have hx := h.lx
  have hy := h.ly
  apply cmpL_drop k _ _ (by simpa using hx) (by simpa using hy)
  intro j hj
  rw [rev_get _ _ (by omega), rev_get _ _ (by omega)]
  exact h.same j hj

def sgnI (a b : Int) : Int := if a < b then -1 else if b < a then 1 else 0
theorem IsST.cmp_end {X Y : List ByteArray} {k : Nat} (h : IsST X Y k) (he : k = X.length ∨ k = Y.length) : cmpL X.reverse Y.reverse = sgnI X.length Y.length := by
  rw [h.cmp]
  have hx := h.lx
  have hy := h.ly
  unfold sgnI
  rcases he with rfl | rfl
  · rw [List.drop_of_length_le (by simp)]
    by_cases e : Y.length = X.length
    · rw [List.drop_of_length_le (by simp; omega), if_neg (by omega), if_neg (by omega)]; rfl
    · rw [if_pos (by omega)]
      cases hd : Y.reverse.drop X.length with
      | nil => have := congrArg List.length hd; simp at this; omega
      | cons => rfl
  · rw [List.drop_of_length_le (l := Y.reverse) (by simp)]
    by_cases e : Y.length = X.length
    · rw [List.drop_of_length_le (by simp; omega), if_neg (by omega), if_neg (by omega)]; rfl
    · rw [if_neg (by omega), if_pos (by omega)]
      cases hd : X.reverse.drop Y.length with
      | nil => have := congrArg List.length hd; simp at this; omega
      | cons => rfl
theorem IsST.cmp_mid {X Y : List ByteArray} {k : Nat} (h : IsST X Y k) (h1 : k < X.length) (h2 : k < Y.length) :
    cmpL X.reverse Y.reverse = cb (X[X.length - 1 - k]'(by omega)) (Y[Y.length - 1 - k]'(by omega)) := by
  rw [h.cmp]
  have hp := h.parts h1 h2
  rw [List.getElem?_eq_getElem (by omega), List.getElem?_eq_getElem (by omega)] at hp
  rw [List.drop_eq_getElem_cons (l := X.reverse) (by simpa using h1), List.drop_eq_getElem_cons (l := Y.reverse) (by simpa using h2)]
  simp only [cmpL]
  rw [List.getElem_reverse, List.getElem_reverse, if_neg]
  intro e
  exact hp (by rw [(cb_zero _ _).1 e])

/-- the order of names -/
def cmpB (a b : ByteArray) : Int := if isN a = true ∧ isN b = true then cmpL ((labs a).map lowB).reverse ((labs b).map lowB).reverse else 0
theorem cmpB_yes {a b : ByteArray} (ha : isN a = true) (hb : isN b = true) : cmpB a b = cmpL ((labs a).map lowB).reverse ((labs b).map lowB).reverse := by unfold cmpB; rw [if_pos ⟨ha, hb⟩]
theorem cmpB_no {a b : ByteArray} (h : ¬ (isN a = true ∧ isN b = true)) : cmpB a b = 0 := by unfold cmpB; rw [if_neg h]
end Go.Proofs.YtgekfhghambacaaGreat.Nm

namespace Go.Proofs.YtgekfhghambacaaGreat.Nm
set_option linter.unusedVariables false

end Go.Proofs.YtgekfhghambacaaGreat.Nm

namespace Go.Proofs.YtgekfhghambacaaGreat.Nm
set_option linter.unusedVariables false

/-- within the last k labels of a: b has them too -/
theorem within_tail {a b : ByteArray} (ha : isN a = true) {k : Nat} (hk : k ≤ (labs a).length) :
    withinB b (tailB a k) = true ↔ isN b = true ∧ k ≤ (labs b).length ∧ ((labs b).map lowB).drop ((labs b).length - k) = ((labs a).map lowB).drop ((labs a).length - k) := by
  obtain ⟨t1, t2, t3⟩ := tailB_yes ha hk
  rw [withinB_iff, t2]
  have hl : ((labs a).drop ((labs a).length - k)).length = k := by rw [List.length_drop]; omega
  rw [hl, List.map_drop, List.map_drop]
  constructor
  · rintro ⟨h1, _, h3, h4⟩; exact ⟨h1, h3, h4⟩
  · rintro ⟨h1, h3, h4⟩; exact ⟨h1, t1, h3, h4⟩
theorem st_drop {X Y : List ByteArray} {k : Nat} (h1 : k ≤ X.length) (h2 : k ≤ Y.length) (h : ∀ j, j < k → X[X.length - 1 - j]? = Y[Y.length - 1 - j]?) : Y.drop (Y.length - k) = X.drop (X.length - k) := by
  apply List.ext_getElem?
  intro i
  rw [List.getElem?_drop, List.getElem?_drop]
  by_cases hi : i < k
  · have := h (k - 1 - i) (by omega)
    rw [show X.length - 1 - (k - 1 - i) = X.length - k + i by omega, show Y.length - 1 - (k - 1 - i) = Y.length - k + i by omega] at this
    exact this.symm
  · rw [List.getElem?_eq_none (by omega), List.getElem?_eq_none (by omega)]
theorem drop_st {X Y : List ByteArray} {k : Nat} (h1 : k ≤ X.length) (h2 : k ≤ Y.length) (h : Y.drop (Y.length - k) = X.drop (X.length - k)) : ∀ j, j < k → X[X.length - 1 - j]? = Y[Y.length - 1 - j]? := by
  intro j hj
  have := congrArg (fun l => l[k - 1 - j]?) h
  simp only [List.getElem?_drop] at this
  rw [show X.length - k + (k - 1 - j) = X.length - 1 - j by omega, show Y.length - k + (k - 1 - j) = Y.length - 1 - j by omega] at this
  exact this.symm


/-- the longest name that both are within -/
def comB (a b : ByteArray) : ByteArray :=
  match (List.range ((labs a).length + 1)).reverse.find? (fun k => withinB b (tailB a (k : Nat))) with
  | some k => tailB a (k : Nat)
  | none => ByteArray.empty
theorem find_down (p : Nat → Bool) : ∀ n : Nat, (∃ k, (List.range (n + 1)).reverse.find? p = some k ∧ p k = true ∧ k ≤ n ∧ ∀ j, k < j → j ≤ n → p j = false) ∨ ((List.range (n + 1)).reverse.find? p = none ∧ ∀ j, j ≤ n → p j = false)
  | 0 => by
    cases h : p 0 with
    | true => left; exact ⟨0, by simp [List.range_succ, h], h, Nat.le_refl _, fun j h1 h2 => by omega⟩
    | false => right; exact ⟨by simp [List.range_succ, h], fun j hj => by rw [show j = 0 by omega]; exact h⟩
  | n + 1 => by
    have e : (List.range (n + 1 + 1)).reverse = (n + 1) :: (List.range (n + 1)).reverse := by rw [List.range_succ, List.reverse_append]; rfl
    rw [e, List.find?_cons]
    cases h : p (n + 1) with
    | true => left; exact ⟨n + 1, rfl, h, Nat.le_refl _, fun j h1 h2 => by omega⟩
    | false =>
      rcases find_down p n with ⟨k, h1, h2, h3, h4⟩ | ⟨h1, h2⟩
      · left
        refine ⟨k, h1, h2, by omega, fun j h5 h6 => ?_⟩
        by_cases e2 : j = n + 1
        · rw [e2]; exact h
        · exact h4 j h5 (by omega)
      · right
        refine ⟨h1, fun j hj => ?_⟩
        by_cases e2 : j = n + 1
        · rw [e2]; exact h
        · exact h2 j (by omega)
theorem comB_found {a b : ByteArray} {k : Int} (h : withinB b (tailB a k) = true) (hn : ∀ j : Int, k < j → j ≤ (labs a).length → withinB b (tailB a j) = false) : comB a b = tailB a k := by
  have hk : isN a = true ∧ 0 ≤ k ∧ k ≤ (labs a).length := by
    by_cases hc : isN a = true ∧ 0 ≤ k ∧ k ≤ (labs a).length
    · exact hc
    · rw [tailB_no hc] at h
      have := ((withinB_iff _ _).1 h).2.1
      rw [isN_empty] at this; cases this
  obtain ⟨h1, h2, h3⟩ := hk
  obtain ⟨q, rfl⟩ := Int.eq_ofNat_of_zero_le h2
  unfold comB
  rcases find_down (fun k => withinB b (tailB a (k : Nat))) (labs a).length with ⟨m, e1, e2, e3, e4⟩ | ⟨e1, e2⟩
  · rw [e1]
    have : m = q := by
      rcases Nat.lt_trichotomy m q with hl | hl | hl
      · have := e4 q hl (by omega); rw [h] at this; cases this
      · exact hl
      · have := hn m (by omega) (by omega); rw [e2] at this; cases this
    rw [this]
  · have := e2 q (by omega); rw [h] at this; cases this
theorem comB_none {a b : ByteArray} (hn : ∀ j : Int, 0 ≤ j → j ≤ (labs a).length → withinB b (tailB a j) = false) : comB a b = ByteArray.empty := by
  unfold comB
  rcases find_down (fun k => withinB b (tailB a (k : Nat))) (labs a).length with ⟨m, e1, e2, e3, e4⟩ | ⟨e1, e2⟩
  · have := hn m (by omega) (by omega); rw [e2] at this; cases this
  · rw [e1]
theorem comB_no {a b : ByteArray} (h : ¬ (isN a = true ∧ isN b = true)) : comB a b = ByteArray.empty := by
  apply comB_none
  intro j h1 h2
  cases hw : withinB b (tailB a j) with
  | false => rfl
  | true =>
    have w1 := (withinB_iff _ _).1 hw
    have : isN a = true := by
      by_cases hc : isN a = true ∧ 0 ≤ j ∧ j ≤ (labs a).length
      · exact hc.1
      · rw [tailB_no hc, isN_empty] at w1; cases w1.2.1
    exact absurd ⟨this, w1.1⟩ h
theorem comB_st {a b : ByteArray} (ha : isN a = true) (hb : isN b = true) {k : Nat} (h : IsST ((labs a).map lowB) ((labs b).map lowB) k) : comB a b = tailB a k := by
  have lx := h.lx
  have ly := h.ly
  simp at lx ly
  apply comB_found (k := (k : Nat))
  · rw [within_tail ha lx]
    refine ⟨hb, ly, ?_⟩
    have := st_drop h.lx h.ly h.same
    simpa using this
  · intro j h1 h2
    obtain ⟨q, rfl⟩ := Int.eq_ofNat_of_zero_le (show 0 ≤ j by omega)
    cases hw : withinB b (tailB a (q : Nat)) with
    | false => rfl
    | true =>
      obtain ⟨_, w2, w3⟩ := (within_tail ha (by omega)).1 hw
      have hd := drop_st (X := (labs a).map lowB) (Y := (labs b).map lowB) (k := q) (by simp; omega) (by simp; omega) (by simpa using w3)
      exact absurd (hd k (by omega)) (h.parts (by simp; omega) (by simp; omega))
end Go.Proofs.YtgekfhghambacaaGreat.Nm

namespace Go.Proofs.YtgekfhghambacaaGreat.Nm
set_option linter.unusedVariables false

def parB (s : ByteArray) : ByteArray := tailB s (cntI s - 1)
theorem parB_root {s : ByteArray} (h : isN s = true) (hl : (labs s).length = 0) : parB s = ByteArray.empty := by
  unfold parB; rw [cntI_yes h, hl]; exact tailB_no (fun e => by have := e.2.1; omega)
theorem parB_yes {s : ByteArray} (h : isN s = true) (hl : 0 < (labs s).length) : parB s = putB ((labs s).drop 1) := by
  unfold parB
  rw [cntI_yes h, show (((labs s).length : Nat) : Int) - 1 = (((labs s).length - 1 : Nat) : Int) by omega, (tailB_yes h (by omega)).2.2]
  congr 2; omega

def starB (s : ByteArray) : ByteArray := if isN s = true ∧ s.size ≤ 253 then ⟨#[1, 42]⟩ ++ s else ByteArray.empty
theorem starB_yes {s : ByteArray} (h : isN s = true) (hz : s.size ≤ 253) : starB s = ⟨#[1, 42]⟩ ++ s := by unfold starB; rw [if_pos ⟨h, hz⟩]
theorem starB_no {s : ByteArray} (h : ¬ (isN s = true ∧ s.size ≤ 253)) : starB s = ByteArray.empty := by unfold starB; rw [if_neg h]
theorem toList_bt (a b : ByteArray) : (a.toList == b.toList) = decide (a = b) := by
  rw [Bool.eq_iff_iff, beq_iff_eq, toList_inj, decide_eq_true_iff]
end Go.Proofs.YtgekfhghambacaaGreat.Nm
