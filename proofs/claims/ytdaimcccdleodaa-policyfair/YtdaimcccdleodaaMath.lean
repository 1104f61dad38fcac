import Derived.Laws.Closers25
/-
  Plain facts on names in their wire form: no program, no memory. (The verifier's own text.)
-/
namespace Go.Proofs.Ytdaimcccdleodaa.Nm
set_option linter.unusedVariables false

/-- the byte at i, as a number; 0 beyond the end -/
def bt (s : ByteArray) (i : Nat) : Nat := if h : i < s.size then (s[i]'h).toNat else 0

theorem bt_eq {s : ByteArray} {i : Nat} (h : i < s.size) : (s[i]'h).toNat = bt s i := by simp [bt, h]
theorem bt_lt (s : ByteArray) (i : Nat) : bt s i < 256 := by
  unfold bt; split
  · exact UInt8.toNat_lt _
  · omega

/-- a whole label stands at i -/
def GoodL (s : ByteArray) (i : Nat) : Prop := i < s.size ∧ 0 < bt s i ∧ bt s i ≤ 63 ∧ i + 1 + bt s i ≤ s.size
def goodL (s : ByteArray) (i : Nat) : Bool := decide (i < s.size ∧ 0 < bt s i ∧ bt s i ≤ 63 ∧ i + 1 + bt s i ≤ s.size)
theorem good_iff {s : ByteArray} {i : Nat} : goodL s i = true ↔ GoodL s i := by simp [goodL, GoodL]
theorem GoodL.room {s : ByteArray} {i : Nat} (h : GoodL s i) : i + 1 + bt s i ≤ s.size := h.2.2.2
theorem GoodL.lt {s : ByteArray} {i : Nat} (h : GoodL s i) : i < s.size := h.1
theorem GoodL.pos {s : ByteArray} {i : Nat} (h : GoodL s i) : 0 < bt s i := h.2.1
theorem GoodL.le {s : ByteArray} {i : Nat} (h : GoodL s i) : bt s i ≤ 63 := h.2.2.1

/-- a place and a label within s -/
abbrev Lab (s : ByteArray) := { x : Nat × ByteArray // x.1 + 1 + x.2.size ≤ s.size }

def labAt (s : ByteArray) (i : Nat) (h : GoodL s i) : Lab s :=
  ⟨(i, s.extract (i + 1) (i + 1 + bt s i)), by have := h.room; simp [ByteArray.size_extract]; omega⟩

def seqFrom (s : ByteArray) : Nat → Nat → List (Lab s)
  | 0, _ => []
  | f + 1, i => if h : goodL s i = true then labAt s i (good_iff.1 h) :: seqFrom s f (i + 1 + bt s i) else []

theorem seqFrom_fuel (s : ByteArray) : ∀ (f g i : Nat), s.size < f + i → s.size < g + i → seqFrom s f i = seqFrom s g i
  | 0, g, i, hf, _ => by
    cases g with
    | zero => rfl
    | succ g =>
      simp only [seqFrom]
      rw [dif_neg]
      intro h; have := (good_iff.1 h).lt; omega
  | f + 1, 0, i, _, hg => by
    simp only [seqFrom]
    rw [dif_neg]
    intro h; have := (good_iff.1 h).lt; omega
  | f + 1, g + 1, i, hf, hg => by
    simp only [seqFrom]
    split
    · rename_i h
      have := (good_iff.1 h).pos
      rw [seqFrom_fuel s f g _ (by omega) (by omega)]
    · rfl

/-- the labels from place i on -/
def rest (s : ByteArray) (i : Nat) : List (Lab s) := seqFrom s (s.size + 1) i

theorem rest_good {s : ByteArray} {i : Nat} (h : GoodL s i) : rest s i = labAt s i h :: rest s (i + 1 + bt s i) := by
  unfold rest
  conv => lhs; unfold seqFrom
  rw [dif_pos (good_iff.2 h)]
  have := h.pos
  rw [seqFrom_fuel s s.size (s.size + 1) _ (by omega) (by omega)]
theorem rest_bad {s : ByteArray} {i : Nat} (h : ¬ GoodL s i) : rest s i = [] := by
  unfold rest seqFrom
  rw [dif_neg (fun e => h (good_iff.1 e))]

/-- where the labels from i on end -/
def finFrom (s : ByteArray) : Nat → Nat → Nat
  | 0, i => i
  | f + 1, i => if goodL s i = true then finFrom s f (i + 1 + bt s i) else i
def fin (s : ByteArray) (i : Nat) : Nat := finFrom s (s.size + 1) i
theorem finFrom_fuel (s : ByteArray) : ∀ (f g i : Nat), s.size < f + i → s.size < g + i → finFrom s f i = finFrom s g i
  | 0, g, i, hf, _ => by
    cases g with
    | zero => rfl
    | succ g =>
      simp only [finFrom]
      rw [if_neg]
      intro h; have := (good_iff.1 h).lt; omega
  | f + 1, 0, i, _, hg => by
    simp only [finFrom]
    rw [if_neg]
    intro h; have := (good_iff.1 h).lt; omega
  | f + 1, g + 1, i, hf, hg => by
    simp only [finFrom]
    split
    · rename_i h
      have := (good_iff.1 h).pos
      rw [finFrom_fuel s f g _ (by omega) (by omega)]
    · rfl
theorem fin_good {s : ByteArray} {i : Nat} (h : GoodL s i) : fin s i = fin s (i + 1 + bt s i) := by
  unfold fin
  conv => lhs; unfold finFrom
  rw [if_pos (good_iff.2 h)]
  have := h.pos
  rw [finFrom_fuel s s.size (s.size + 1) _ (by omega) (by omega)]
theorem fin_bad {s : ByteArray} {i : Nat} (h : ¬ GoodL s i) : fin s i = i := by
  unfold fin finFrom
  rw [if_neg (fun e => h (good_iff.1 e))]

/-- the place behind the last of some labels -/
def lastEnd {s : ByteArray} : List (Lab s) → Nat → Nat
  | [], i => i
  | x :: l, _ => lastEnd l (x.1.1 + 1 + x.1.2.size)
theorem lastEnd_snoc {s : ByteArray} (l : List (Lab s)) (x : Lab s) (i : Nat) : lastEnd (l ++ [x]) i = x.1.1 + 1 + x.1.2.size := by
  induction l generalizing i with
  | nil => rfl
  | cons y l ih => exact ih _
theorem lastEnd_le {s : ByteArray} (l : List (Lab s)) (i : Nat) (h : i ≤ s.size) : lastEnd l i ≤ s.size := by
  induction l generalizing i with
  | nil => exact h
  | cons y l ih => exact ih _ y.2
theorem labAt_size {s : ByteArray} {i : Nat} (h : GoodL s i) : (labAt s i h).1.2.size = bt s i := by
  have := h.room
  simp [labAt, ByteArray.size_extract]; omega
theorem lastEnd_rest (s : ByteArray) : ∀ (k i : Nat), s.size - i ≤ k → lastEnd (rest s i) i = fin s i
  | k, i, hk => by
    by_cases h : GoodL s i
    · rw [rest_good h, fin_good h]
      simp only [lastEnd]
      have e : (labAt s i h).1.1 + 1 + (labAt s i h).1.2.size = i + 1 + bt s i := by rw [labAt_size h]; rfl
      rw [e]
      have := h.lt
      cases k with
      | zero => omega
      | succ k => exact lastEnd_rest s k _ (by omega)
    · rw [rest_bad h, fin_bad h]; rfl

/-- s is a name -/
def isN (s : ByteArray) : Bool := decide (s.size ≤ 255 ∧ fin s 0 + 1 = s.size ∧ bt s (fin s 0) = 0)

theorem toList_eq (s : ByteArray) : s.toList = s.data.toList := ByteArray.toList_eq s
theorem toList_extract (s : ByteArray) (a b : Nat) : (s.extract a b).toList = (s.data.toList.take b).drop a := by
  simp [toList_eq, ByteArray.data_extract, List.extract_eq_drop_take']
theorem getElem_data (s : ByteArray) (i : Nat) (h : i < s.size) : s.data.toList[i]'(by simpa using h) = s[i] := rfl
theorem bt_list (s : ByteArray) (i : Nat) (h : i < s.size) : (s.data.toList[i]'(by simpa using h)).toNat = bt s i := bt_eq h

/-- what stands from e on is one nought -/
theorem zero_end (s : ByteArray) (e : Nat) (he : e ≤ s.size) : ((s.extract e s.size).toList == [0]) = decide (e + 1 = s.size ∧ bt s e = 0) := by
  rw [toList_extract]
  have hl : s.data.toList.length = s.size := by simp
  rw [List.take_of_length_le (by omega)]
  by_cases h : e < s.size
  · rw [List.drop_eq_getElem_cons (by omega)]
    have hb := bt_list s e h
    by_cases h1 : e + 1 = s.size
    · rw [List.drop_of_length_le (by omega)]
      rw [Bool.eq_iff_iff]
      simp only [beq_iff_eq, decide_eq_true_eq, List.cons.injEq, and_true]
      constructor
      · intro h2; rw [h2] at hb; exact ⟨h1, hb.symm⟩
      · intro h2; apply UInt8.toNat_inj.1; rw [hb, h2.2]; rfl
    · rw [List.drop_eq_getElem_cons (by omega)]
      simp [h1]
  · rw [List.drop_of_length_le (by omega)]
    rw [Bool.eq_iff_iff]; simp; omega

/-- a text from i on: what stands in it -/
structure From (s : ByteArray) (i : Nat) (r : ByteArray) : Prop where
  eq : r = s.extract i s.size
theorem From.size {s r : ByteArray} {i : Nat} (h : From s i r) : r.size = s.size - i := by rw [h.eq]; simp
theorem From.bt {s r : ByteArray} {i : Nat} (h : From s i r) (j : Nat) : bt r j = bt s (i + j) := by
  have hz := h.size
  unfold Nm.bt
  by_cases hj : i + j < s.size
  · rw [dif_pos (by omega), dif_pos hj]
    obtain ⟨rfl⟩ := h
    rw [ByteArray.getElem_extract]
  · rw [dif_neg (by omega), dif_neg hj]
theorem From.first {s r : ByteArray} {i : Nat} (h : From s i r) : Nm.bt r 0 = Nm.bt s i := h.bt 0
theorem From.extract {s r : ByteArray} {i : Nat} (h : From s i r) (a b : Nat) (hi : i ≤ s.size) (hb : b ≤ r.size) : r.extract a b = s.extract (i + a) (i + b) := by
  have hz := h.size
  rw [h.eq, ByteArray.extract_extract]
  congr 1; omega
theorem From.next {s r : ByteArray} {i : Nat} (h : From s i r) (hi : i ≤ s.size) (a : Nat) (ha : a ≤ r.size) : From s (i + a) (r.extract a r.size) := by
  have hz := h.size
  refine ⟨?_⟩
  rw [h.extract a r.size hi (Nat.le_refl _)]
  congr 1; omega
theorem isEmpty_true {r : ByteArray} (h : r.size = 0) : r.toList.isEmpty = true := by
  rw [toList_eq, List.isEmpty_iff]
  exact List.length_eq_zero_iff.1 (by rw [Array.length_toList]; exact h)
theorem isEmpty_false {r : ByteArray} (h : 0 < r.size) : r.toList.isEmpty = false := by
  rw [toList_eq]
  cases hl : r.data.toList with
  | nil => have : r.data.toList.length = r.size := by simp
           rw [hl] at this; simp at this; omega
  | cons => rfl
theorem bt_wrap {s : ByteArray} {i : Nat} (h : i < s.size) : ∃ k : Nat, ((s[i]'h).toNat : Int) = (k : Int) ∧ bt s i = k ∧ k < 256 := ⟨bt s i, by rw [bt_eq h], rfl, bt_lt s i⟩

/-- the labels from i on, as texts -/
def labsFrom (s : ByteArray) (i : Nat) : List ByteArray := (rest s i).map (fun x => x.1.2)
def labs (s : ByteArray) : List ByteArray := labsFrom s 0
theorem labsFrom_good {s : ByteArray} {i : Nat} (h : GoodL s i) : labsFrom s i = s.extract (i + 1) (i + 1 + bt s i) :: labsFrom s (i + 1 + bt s i) := by
  unfold labsFrom; rw [rest_good h]; rfl
theorem labsFrom_bad {s : ByteArray} {i : Nat} (h : ¬ GoodL s i) : labsFrom s i = [] := by
  unfold labsFrom; rw [rest_bad h]; rfl

end Go.Proofs.Ytdaimcccdleodaa.Nm
