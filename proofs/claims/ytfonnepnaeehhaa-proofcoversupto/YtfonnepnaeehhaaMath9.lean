import Derived.Test.YtfonnepnaeehhaaMath8
namespace Go.Proofs.Ytfonnepnaeehhaa.Nm
set_option linter.unusedVariables false


theorem cbl_zero : ∀ l m : List UInt8, Go.Lib.compareBytes l m = 0 ↔ l = m
  | [], [] => by simp [Go.Lib.compareBytes]
  | [], _ :: _ => by simp [Go.Lib.compareBytes]
  | _ :: _, [] => by simp [Go.Lib.compareBytes]
  | a :: l, b :: m => by
    unfold Go.Lib.compareBytes
    split
    · rename_i h
      simp only [List.cons.injEq]
      constructor
      · intro h; cases h
      · rintro ⟨rfl, _⟩; exact absurd h (UInt8.lt_irrefl _)
    · split
      · rename_i h
        simp only [List.cons.injEq]
        constructor
        · intro h; cases h
        · rintro ⟨rfl, _⟩; exact absurd h (UInt8.lt_irrefl _)
      · rename_i h1 h2
        have : a = b := UInt8.le_antisymm (UInt8.not_lt.1 h2) (UInt8.not_lt.1 h1)
        subst this
        rw [cbl_zero l m]; simp
theorem cbl_range : ∀ l m : List UInt8, Go.Lib.compareBytes l m = -1 ∨ Go.Lib.compareBytes l m = 0 ∨ Go.Lib.compareBytes l m = 1
  | [], [] => by simp [Go.Lib.compareBytes]
  | [], _ :: _ => by simp [Go.Lib.compareBytes]
  | _ :: _, [] => by simp [Go.Lib.compareBytes]
  | a :: l, b :: m => by
    unfold Go.Lib.compareBytes
    split
    · exact .inl rfl
    · split
      · exact .inr (.inr rfl)
      · exact cbl_range l m
theorem cbl_less : ∀ l m : List UInt8, Go.Op.bytesLess l m = decide (Go.Lib.compareBytes l m = -1)
  | [], [] => by simp [Go.Lib.compareBytes, Go.Op.bytesLess]
  | [], _ :: _ => by simp [Go.Lib.compareBytes, Go.Op.bytesLess]
  | _ :: _, [] => by simp [Go.Lib.compareBytes, Go.Op.bytesLess]
  | a :: l, b :: m => by
    unfold Go.Lib.compareBytes Go.Op.bytesLess
    split
    · rename_i h; simp [h]
    · rename_i h
      split
      · rename_i h2
        have : ¬ a = b := fun e => by subst e; exact UInt8.lt_irrefl _ h2
        simp [h, this]
      · rename_i h2
        have : a = b := UInt8.le_antisymm (UInt8.not_lt.1 h2) (UInt8.not_lt.1 h)
        subst this
        rw [cbl_less l m]; simp
theorem cbl_anti : ∀ l m : List UInt8, Go.Lib.compareBytes m l = - Go.Lib.compareBytes l m
  | [], [] => by simp [Go.Lib.compareBytes]
  | [], _ :: _ => by simp [Go.Lib.compareBytes]
  | _ :: _, [] => by simp [Go.Lib.compareBytes]
  | a :: l, b :: m => by
    unfold Go.Lib.compareBytes
    by_cases h1 : a < b
    · have h2 : ¬ b < a := UInt8.not_lt.2 (UInt8.le_of_lt h1)
      rw [if_neg h2, if_pos h1, if_pos h1]; rfl
    · by_cases h2 : b < a
      · rw [if_pos h2, if_neg h1, if_pos h2]
      · rw [if_neg h2, if_neg h1, if_neg h1, if_neg h2]; exact cbl_anti l m

/-- two labels -/
def cb (a b : ByteArray) : Int := Go.Lib.compareBytes a.data.toList b.data.toList
theorem cb_zero (a b : ByteArray) : cb a b = 0 ↔ a = b := by
  unfold cb
  rw [cbl_zero]
  constructor
  · intro h; apply ByteArray.ext; exact Array.toList_inj.1 h
  · intro h; rw [h]
theorem cb_range (a b : ByteArray) : cb a b = -1 ∨ cb a b = 0 ∨ cb a b = 1 := cbl_range _ _
theorem cb_less (a b : ByteArray) : Go.Op.bytesLess a.toList b.toList = decide (cb a b = -1) := by rw [toList_eq, toList_eq]; exact cbl_less _ _
theorem cb_anti (a b : ByteArray) : cb b a = - cb a b := cbl_anti _ _

/-- rows of labels, from the last one on -/
def cmpL : List ByteArray → List ByteArray → Int
  | [], [] => 0
  | [], _ :: _ => -1
  | _ :: _, [] => 1
  | a :: l, b :: m => if cb a b = 0 then cmpL l m else cb a b

theorem cmpL_drop : ∀ (k : Nat) (P Q : List ByteArray), k ≤ P.length → k ≤ Q.length → (∀ j, j < k → P[j]? = Q[j]?) → cmpL P Q = cmpL (P.drop k) (Q.drop k)
  | 0, P, Q, _, _, _ => rfl
  | k + 1, [], Q, h, _, _ => by simp at h
  | k + 1, _ :: _, [], _, h, _ => by simp at h
  | k + 1, p :: P, q :: Q, h1, h2, hs => by
    have h0 := hs 0 (by omega)
    simp at h0
    subst h0
    rw [List.drop_succ_cons, List.drop_succ_cons, ← cmpL_drop k P Q (by simpa using h1) (by simpa using h2) (fun j hj => by simpa using hs (j + 1) (by omega))]
    simp [cmpL, (cb_zero p p).2 rfl]

theorem rev_get (X : List ByteArray) (j : Nat) (h : j < X.length) : X.reverse[j]? = X[X.length - 1 - j]? := by
  rw [List.getElem?_reverse h]

theorem IsST.cmp {X Y : List ByteArray} {k : Nat} (h : IsST X Y k) :
    cmpL X.reverse Y.reverse = cmpL (X.reverse.drop k) (Y.reverse.drop k) := by
  have hx := h.lx
  have hy := h.ly
  apply cmpL_drop k _ _ (by simpa using hx) (by simpa using hy)
  intro j hj
  rw [rev_get _ _ (by omega), rev_get _ _ (by omega)]
  exact h.same j hj

def sgnI (a b : Int) : Int := if a < b then -1 else if b < a then 1 else 0
theorem IsST.cmp_end {X Y : List ByteArray} {k : Nat} (h : IsST X Y k) (he : k = X.length ∨ k = Y.length) : cmpL X.reverse Y.reverse = sgnI X.length Y.length := by
  rw [h.cmp]
  have hx := h.lx
  have hy := h.ly
  unfold sgnI
  rcases he with rfl | rfl
  · rw [List.drop_of_length_le (by simp)]
    by_cases e : Y.length = X.length
    · rw [List.drop_of_length_le (by simp; omega), if_neg (by omega), if_neg (by omega)]; rfl
    · rw [if_pos (by omega)]
      cases hd : Y.reverse.drop X.length with
      | nil => have := congrArg List.length hd; simp at this; omega
      | cons => rfl
  · rw [List.drop_of_length_le (l := Y.reverse) (by simp)]
    by_cases e : Y.length = X.length
    · rw [List.drop_of_length_le (by simp; omega), if_neg (by omega), if_neg (by omega)]; rfl
    · rw [if_neg (by omega), if_pos (by omega)]
      cases hd : X.reverse.drop Y.length with
      | nil => have := congrArg List.length hd; simp at this; omega
      | cons => rfl
theorem IsST.cmp_mid {X Y : List ByteArray} {k : Nat} (h : IsST X Y k) (h1 : k < X.length) (h2 : k < Y.length) :
    cmpL X.reverse Y.reverse = cb (X[X.length - 1 - k]'(by omega)) (Y[Y.length - 1 - k]'(by omega)) := by
  rw [h.cmp]
  have hp := h.parts h1 h2
  rw [List.getElem?_eq_getElem (by omega), List.getElem?_eq_getElem (by omega)] at hp
  rw [List.drop_eq_getElem_cons (l := X.reverse) (by simpa using h1), List.drop_eq_getElem_cons (l := Y.reverse) (by simpa using h2)]
  simp only [cmpL]
  rw [List.getElem_reverse, List.getElem_reverse, if_neg]
  intro e
  exact hp (by rw [(cb_zero _ _).1 e])

/-- the order of names -/
def cmpB (a b : ByteArray) : Int := if isN a = true ∧ isN b = true then cmpL ((labs a).map lowB).reverse ((labs b).map lowB).reverse else 0
theorem cmpB_yes {a b : ByteArray} (ha : isN a = true) (hb : isN b = true) : cmpB a b = cmpL ((labs a).map lowB).reverse ((labs b).map lowB).reverse := by unfold cmpB; rw [if_pos ⟨ha, hb⟩]
theorem cmpB_no {a b : ByteArray} (h : ¬ (isN a = true ∧ isN b = true)) : cmpB a b = 0 := by unfold cmpB; rw [if_neg h]
end Go.Proofs.Ytfonnepnaeehhaa.Nm
