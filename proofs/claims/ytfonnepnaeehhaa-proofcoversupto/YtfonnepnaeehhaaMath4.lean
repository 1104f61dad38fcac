import Derived.Test.YtfonnepnaeehhaaMath3
namespace Go.Proofs.Ytfonnepnaeehhaa.Nm
set_option linter.unusedVariables false

theorem labsFrom_mem {s : ByteArray} : ∀ (k i : Nat), s.size - i ≤ k → ∀ x ∈ labsFrom s i, 0 < x.size ∧ x.size ≤ 63
  | k, i, hk => by
    by_cases h : GoodL s i
    · rw [labsFrom_good h]
      intro x hx
      have hp := h.pos
      have hle := h.le
      have hr := h.room
      cases List.mem_cons.1 hx with
      | inl e => subst e; simp only [ByteArray.size_extract]; omega
      | inr e =>
        cases k with
        | zero => have := h.lt; omega
        | succ k => exact labsFrom_mem k _ (by omega) x e
    · rw [labsFrom_bad h]; intro x hx; cases hx
theorem labs_mem {s : ByteArray} {x : ByteArray} (h : x ∈ labs s) : 0 < x.size ∧ x.size ≤ 63 := labsFrom_mem s.size 0 (by omega) x h

theorem bt_append_left (a b : ByteArray) (j : Nat) (h : j < a.size) : bt (a ++ b) j = bt a j := by
  have hz : (a ++ b).size = a.size + b.size := ByteArray.size_append
  rw [← bt_eq h, ← bt_eq (s := a ++ b) (by omega)]
  rw [ByteArray.getElem_append_left h]
theorem bt_append_right (a b : ByteArray) (j : Nat) (h : a.size ≤ j) : bt (a ++ b) j = bt b (j - a.size) := by
  have hz : (a ++ b).size = a.size + b.size := ByteArray.size_append
  by_cases hj : j < a.size + b.size
  · rw [← bt_eq (s := a ++ b) (by omega), ← bt_eq (s := b) (by omega)]
    rw [ByteArray.getElem_append_right h]
  · unfold bt; rw [dif_neg (by omega), dif_neg (by omega)]
theorem bt_extract (s : ByteArray) (a b j : Nat) (h : j < b - a) (hb : b ≤ s.size) : bt (s.extract a b) j = bt s (a + j) := by
  have hz : (s.extract a b).size = b - a := by simp; omega
  rw [← bt_eq (s := s.extract a b) (by omega), ← bt_eq (s := s) (by omega)]
  rw [ByteArray.getElem_extract]
theorem size_extract' (s : ByteArray) (a b : Nat) (hb : b ≤ s.size) : (s.extract a b).size = b - a := by simp; omega
theorem bt_one (n : Nat) (h : n < 256) : bt ⟨#[UInt8.ofNat n]⟩ 0 = n := by
  rw [← bt_eq (s := ⟨#[UInt8.ofNat n]⟩) (i := 0) (Nat.zero_lt_one)]
  show (UInt8.ofNat n).toNat = n
  rw [UInt8.toNat_ofNat']; omega
theorem extract_join (s : ByteArray) (a b c : Nat) (hab : a ≤ b) (hbc : b ≤ c) (hc : c ≤ s.size) : s.extract a b ++ s.extract b c = s.extract a c := by
  apply ba_ext
  · rw [ByteArray.size_append, size_extract' s a b (by omega), size_extract' s b c hc, size_extract' s a c hc]; omega
  · intro j hj
    rw [ByteArray.size_append, size_extract' s a b (by omega), size_extract' s b c hc] at hj
    by_cases h : j < b - a
    · rw [bt_append_left _ _ _ (by rw [size_extract' s a b (by omega)]; exact h), bt_extract _ _ _ _ h (by omega), bt_extract _ _ _ _ (by omega) hc]
    · rw [bt_append_right _ _ _ (by rw [size_extract' s a b (by omega)]; omega), size_extract' s a b (by omega), bt_extract _ _ _ _ (by omega) hc, bt_extract _ _ _ _ (by omega) hc]
      congr 1; omega
theorem chunk_extract {s : ByteArray} {i : Nat} (h : GoodL s i) : chunk (s.extract (i + 1) (i + 1 + bt s i)) = s.extract i (i + 1 + bt s i) := by
  have hr := h.room
  have hz : (s.extract (i + 1) (i + 1 + bt s i)).size = bt s i := by rw [size_extract' _ _ _ hr]; omega
  rw [← extract_join s i (i + 1) (i + 1 + bt s i) (by omega) (by omega) hr]
  unfold chunk
  rw [hz]
  congr 1
  apply ba_ext
  · rw [size_extract' _ _ _ (by omega)]; show 1 = _; omega
  · intro j hj
    have : j = 0 := by have : j < 1 := hj; omega
    subst this
    rw [bt_one _ (bt_lt s i), bt_extract _ _ _ _ (by omega) (by omega)]; rfl
theorem fin_bounds (s : ByteArray) : ∀ (k i : Nat), s.size - i ≤ k → i ≤ s.size → i ≤ fin s i ∧ fin s i ≤ s.size
  | k, i, hk, hi => by
    by_cases h : GoodL s i
    · rw [fin_good h]
      have hr := h.room
      have := h.lt
      cases k with
      | zero => omega
      | succ k => have := fin_bounds s k _ (by omega) hr; omega
    · rw [fin_bad h]; omega
theorem chunks_labsFrom (s : ByteArray) : ∀ (k i : Nat), s.size - i ≤ k → i ≤ s.size → chunks (labsFrom s i) = s.extract i (fin s i)
  | k, i, hk, hi => by
    by_cases h : GoodL s i
    · rw [fin_good h, labsFrom_good h, chunks_cons, chunk_extract h]
      have hr := h.room
      have hlt := h.lt
      cases k with
      | zero => omega
      | succ k =>
        rw [chunks_labsFrom s k _ (by omega) hr]
        have := fin_bounds s k _ (by omega) hr
        exact extract_join s _ _ _ (by omega) (by omega) (by omega)
    · rw [fin_bad h, labsFrom_bad h]
      apply ba_ext
      · rw [size_extract' _ _ _ hi, Nat.sub_self]; rfl
      · intro j hj; exact absurd hj (Nat.not_lt_zero _)

theorem isN_iff (s : ByteArray) : isN s = true ↔ s.size ≤ 255 ∧ fin s 0 + 1 = s.size ∧ bt s (fin s 0) = 0 := by simp [isN]
/-- a name's labels make it again -/
theorem putB_labs {s : ByteArray} (h : isN s = true) : putB (labs s) = s := by
  obtain ⟨h1, h2, h3⟩ := (isN_iff s).1 h
  have hc := chunks_labsFrom s s.size 0 (by omega) (by omega)
  have hz : (s.extract 0 (fin s 0)).size = fin s 0 := by rw [size_extract' _ _ _ (by omega)]; omega
  unfold putB labs
  rw [hc]
  apply ba_ext
  · rw [ByteArray.size_append, hz]; exact h2
  · intro j hj
    rw [ByteArray.size_append, hz] at hj
    have hj' : j < fin s 0 + 1 := hj
    by_cases e : j < fin s 0
    · rw [bt_append_left _ _ _ (by omega), bt_extract _ _ _ _ (by omega) (by omega), Nat.zero_add]
    · rw [bt_append_right _ _ _ (by omega), hz, show j = fin s 0 by omega, Nat.sub_self, h3]
      rfl

theorem lowB_append (a b : ByteArray) : lowB (a ++ b) = lowB a ++ lowB b := by
  have h1 := lowB_size a
  have h2 := lowB_size b
  apply ba_ext
  · rw [lowB_size, ByteArray.size_append, ByteArray.size_append, h1, h2]
  · intro j _
    rw [lowB_bt]
    by_cases h : j < a.size
    · rw [bt_append_left _ _ _ h, bt_append_left _ _ _ (by omega), lowB_bt]
    · rw [bt_append_right _ _ _ (by omega), bt_append_right _ _ _ (by omega), lowB_bt, h1]
theorem lowB_chunk {x : ByteArray} (h : x.size ≤ 63) : chunk (lowB x) = lowB (chunk x) := by
  unfold chunk
  rw [lowB_append, lowB_size]
  congr 1
  apply ba_ext
  · rw [lowB_size]
  · intro j hj
    have : j = 0 := by have : j < 1 := hj; omega
    subst this
    rw [lowB_bt, bt_one _ (by omega), lowN, if_neg (by omega)]
theorem lowB_empty : lowB ByteArray.empty = ByteArray.empty := by
  apply ba_ext
  · rw [lowB_size]
  · intro j hj; rw [lowB_size] at hj; exact absurd hj (Nat.not_lt_zero _)
theorem lowB_zero : lowB ⟨#[0]⟩ = ⟨#[0]⟩ := by
  apply ba_ext
  · rw [lowB_size]
  · intro j hj
    rw [lowB_size] at hj
    have : j = 0 := by have : j < 1 := hj; omega
    subst this
    rw [lowB_bt]; rfl
theorem chunks_low (l : List ByteArray) (h : ∀ x ∈ l, x.size ≤ 63) : chunks (l.map lowB) = lowB (chunks l) := by
  induction l with
  | nil => exact lowB_empty.symm
  | cons x l ih =>
    rw [List.map_cons, chunks_cons, chunks_cons, lowB_append, lowB_chunk (h x (by simp)), ih (fun y hy => h y (by simp [hy]))]
theorem putB_low (l : List ByteArray) (h : ∀ x ∈ l, x.size ≤ 63) : putB (l.map lowB) = lowB (putB l) := by
  unfold putB; rw [chunks_low l h, lowB_append, lowB_zero]
theorem putB_low_labs {s : ByteArray} (h : isN s = true) : putB ((labs s).map lowB) = lowB s := by
  rw [putB_low _ (fun x hx => (labs_mem hx).2), putB_labs h]

def foldB (s : ByteArray) : ByteArray := if isN s = true then lowB s else ByteArray.empty
theorem foldB_yes {s : ByteArray} (h : isN s = true) : foldB s = lowB s := by simp [foldB, h]
theorem foldB_no {s : ByteArray} (h : isN s = false) : foldB s = ByteArray.empty := by simp [foldB, h]
end Go.Proofs.Ytfonnepnaeehhaa.Nm
