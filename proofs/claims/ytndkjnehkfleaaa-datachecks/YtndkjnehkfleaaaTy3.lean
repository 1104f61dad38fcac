import Derived.Test.YtndkjnehkfleaaaTy2
import Derived.Test.YtndkjnehkfleaaaSt2
namespace Go.Proofs.Ytndkjnehkfleaaa
set_option linter.unusedVariables false
open Go.RowKit Go.Shelf Go.Proofs.Ytndkjnehkfleaaa.Nm

/-- a set's types rise -/
theorem typF_rise : ∀ (f : Nat) (last : Int) (s : ByteArray) (l : List Nat), -1 ≤ last → typF f last s = some l → l.Pairwise (· < ·) ∧ ∀ x ∈ l, (last + 1) * 256 ≤ (x : Int)
  | 0, last, s, l, _, h => by
    unfold typF at h; split at h
    · simp at h; subst h; exact ⟨.nil, fun x hx => by cases hx⟩
    · cases h
  | f + 1, last, s, l, hl, h => by
    unfold typF at h
    split at h
    · simp at h; subst h; exact ⟨.nil, fun x hx => by cases hx⟩
    split at h
    · cases h
    split at h
    · cases h
    rename_i h3
    split at h
    · cases h
    split at h
    · cases h
    cases e : typF f (bt s 0) (s.extract (2 + bt s 1) s.size) with
    | none => rw [e] at h; cases h
    | some q =>
      rw [e] at h
      simp at h
      subst h
      obtain ⟨h5, h6⟩ := typF_rise f _ _ q (by omega) e
      have hb : ∀ x ∈ blkT (bt s 0) (s.extract 2 (2 + bt s 1)) (8 * bt s 1), bt s 0 * 256 ≤ x ∧ x < bt s 0 * 256 + 256 := fun x hx => by
        obtain ⟨i, hi, rfl, _⟩ := mem_blkT.1 hx
        omega
      refine ⟨List.pairwise_append.2 ⟨rise_blkT, h5, fun a ha b hb' => ?_⟩, fun x hx => ?_⟩
      · have h7 := hb a ha
        have h8 := h6 b hb'
        omega
      · rcases List.mem_append.1 hx with h7 | h7
        · have h8 := hb x h7; omega
        · have h8 := h6 x h7; omega
theorem zero_head {s : ByteArray} {l : List Nat} (h : typS (-1) s = some l) (h0 : 0 ∈ l) : l.head? = some 0 := by
  have h1 := (typF_rise _ _ _ _ (by omega) h).1
  cases l with
  | nil => cases h0
  | cons x l =>
    rcases List.mem_cons.1 h0 with rfl | h2
    · rfl
    · exact absurd ((List.pairwise_cons.1 h1).1 0 h2) (by omega)
theorem head_zero {l : List Nat} (h : l.head? = some 0) : 0 ∈ l := by
  cases l with
  | nil => cases h
  | cons x l => simp at h; subst h; exact List.mem_cons_self ..
theorem bitsL_bit (d : ByteArray) : ∀ (n k : Nat), k < 8 * n → (bitsL 8 (lst d n))[k]? = some (bitAt d k)
  | 0, k, h => by omega
  | n + 1, k, h => by
    have hl : (bitsL 8 (lst d n)).length = 8 * n := by rw [bitsL_len, lst_len]
    rw [lst_succ, bitsL_snoc]
    by_cases hk : k < 8 * n
    · rw [List.getElem?_append_left (by omega)]; exact bitsL_bit d n k hk
    · rw [List.getElem?_append_right (by omega), hl, bitsW_get 8 _ _ (by omega)]
      unfold bitAt
      rw [show k / 8 = n by omega, show 8 - 1 - (k - 8 * n) = 7 - k % 8 by omega]
end Go.Proofs.Ytndkjnehkfleaaa
