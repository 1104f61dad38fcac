import Derived.Test.YtinnmfidnecncaaRc1G
import Derived.Test.YtinnmfidnecncaaFm1G
namespace Go.Proofs.Ytinnmfidnecncaa
set_option linter.unusedVariables false
open Go.RowKit Go.Shelf Go.Proofs.Ytinnmfidnecncaa.Nm

/-- a size as the reference tells it -/
def szI : Option Nat → Int
  | some n => n
  | none => -1
/-- a kind that the reference's form has a letter for -/
def okK : Kind → Prop
  | n + 13 => n = 1 ∨ n = 2 ∨ n = 4
  | 12 => False
  | 0 | 1 | 2 | 3 | 4 | 5 | 6 | 7 | 8 | 9 | 10 | 11 => True

end Go.Proofs.Ytinnmfidnecncaa

namespace Go.Proofs.Ytinnmfidnecncaa
set_option linter.unusedVariables false
open Go.RowKit Go.Shelf Go.Proofs.Ytinnmfidnecncaa.Nm

theorem extract_self (d : ByteArray) : d.extract 0 d.size = d := by
  apply ba_ext
  · rw [size_extract' _ _ _ (Nat.le_refl _)]; omega
  · intro j hj
    rw [size_extract' _ _ _ (Nat.le_refl _)] at hj
    rw [bt_extract _ _ _ _ hj (Nat.le_refl _)]; simp
end Go.Proofs.Ytinnmfidnecncaa

namespace Go.Proofs.Ytinnmfidnecncaa
set_option linter.unusedVariables false
open Go.RowKit Go.Shelf Go.Proofs.Ytinnmfidnecncaa.Nm

/-- a form's letters -/
def formK (ks : List Kind) : ByteArray := ⟨(ks.map letter).toArray⟩
theorem formK_size (ks : List Kind) : (formK ks).size = ks.length := by simp [formK, ByteArray.size]
theorem formK_at (ks : List Kind) (i : Nat) (h : i < ks.length) : bt (formK ks) i = (letter ks[i]).toNat := by
  have h2 : i < (formK ks).size := by rw [formK_size]; exact h
  rw [← bt_eq h2]
  simp [formK, ByteArray.getElem_eq_getElem_data]
/-- the parts' bytes, as cells -/
def byteC (ps : List (Kind × ByteArray)) : List Value := ps.map fun q => .string q.2
/-- how the reference's Parts ends -/
def rpEnd (w : World) (r : Option (List (Kind × ByteArray))) (e : Ending) (w' : World) : Prop := match r with
  | some ps => ∃ p c, e = .returned (.tuple #[.slice p ps.length c, .bool true]) ∧ w'.ownsRow w.heap.size 9 1 (.slice p ps.length c) ps.length (byteC ps)
  | none => ∃ p n c, e = .returned (.tuple #[.slice p n c, .bool false])

end Go.Proofs.Ytinnmfidnecncaa

namespace Go.Proofs.Ytinnmfidnecncaa
set_option linter.unusedVariables false
open Go.RowKit Go.Shelf Go.Proofs.Ytinnmfidnecncaa.Nm

theorem kinds_ok {t : Int} {ks : List Kind} (h : kindsOf t = some ks) : ks = [.unknown] ∨ ((∀ k ∈ ks, okK k) ∧ 1 ≤ ks.length) := by
  unfold kindsOf at h
  by_cases hc : t = 1
  · rw [if_pos hc] at h; cases h; right; simp [okK]
  rw [if_neg hc] at h; clear hc
  by_cases hc : t = 2 ∨ t = 5 ∨ t = 12 ∨ t = 39
  · rw [if_pos hc] at h; cases h; right; simp [okK]
  rw [if_neg hc] at h; clear hc
  by_cases hc : t = 6
  · rw [if_pos hc] at h; cases h; right; simp [okK]
  rw [if_neg hc] at h; clear hc
  by_cases hc : t = 13
  · rw [if_pos hc] at h; cases h; right; simp [okK]
  rw [if_neg hc] at h; clear hc
  by_cases hc : t = 15
  · rw [if_pos hc] at h; cases h; right; simp [okK]
  rw [if_neg hc] at h; clear hc
  by_cases hc : t = 16
  · rw [if_pos hc] at h; cases h; right; simp [okK]
  rw [if_neg hc] at h; clear hc
  by_cases hc : t = 28
  · rw [if_pos hc] at h; cases h; right; simp [okK]
  rw [if_neg hc] at h; clear hc
  by_cases hc : t = 33
  · rw [if_pos hc] at h; cases h; right; simp [okK]
  rw [if_neg hc] at h; clear hc
  by_cases hc : t = 35
  · rw [if_pos hc] at h; cases h; right; simp [okK]
  rw [if_neg hc] at h; clear hc
  by_cases hc : t = 43
  · rw [if_pos hc] at h; cases h; right; simp [okK]
  rw [if_neg hc] at h; clear hc
  by_cases hc : t = 46
  · rw [if_pos hc] at h; cases h; right; simp [okK]
  rw [if_neg hc] at h; clear hc
  by_cases hc : t = 47
  · rw [if_pos hc] at h; cases h; right; simp [okK]
  rw [if_neg hc] at h; clear hc
  by_cases hc : t = 48
  · rw [if_pos hc] at h; cases h; right; simp [okK]
  rw [if_neg hc] at h; clear hc
  by_cases hc : t = 50
  · rw [if_pos hc] at h; cases h; right; simp [okK]
  rw [if_neg hc] at h; clear hc
  by_cases hc : t = 51
  · rw [if_pos hc] at h; cases h; right; simp [okK]
  rw [if_neg hc] at h; clear hc
  by_cases hc : t = 257
  · rw [if_pos hc] at h; cases h; right; simp [okK]
  rw [if_neg hc] at h; clear hc
  by_cases hc : isDT t = true
  · rw [if_pos hc] at h; cases h; left; rfl
  rw [if_neg hc] at h; clear hc
  cases h
theorem formB_kinds {t : Int} {ks : List Kind} (h : kindsOf t = some ks) : formB t = formK ks := by unfold formB; rw [h]; rfl
theorem form_dash {ks : List Kind} (h : ∀ k ∈ ks, okK k) (hl : 1 ≤ ks.length) : ((formK ks).toList == [45]) = false := by
  rw [beq_eq_false_iff_ne]
  intro e
  have e2 : (formK ks).toList = ks.map letter := by rw [toList_eq]; simp [formK]
  rw [e2] at e
  cases ks with
  | nil => cases e
  | cons k ks =>
    simp at e
    have h1 := h k (List.mem_cons_self ..)
    have h2 := e.1
    rcases kind_cases k with rfl | rfl | rfl | rfl | rfl | rfl | rfl | rfl | rfl | rfl | rfl | rfl | rfl | ⟨n, rfl⟩ <;> first | (exact h1.elim; done) | (simp [letter] at h2; done) | skip
    rcases h1 with rfl | rfl | rfl <;> simp [letter] at h2
theorem parts_kinds : ∀ (ks : List Kind) (d : ByteArray) (ps : List (Kind × ByteArray)), partsOf ks d = some ps → ps.map (·.1) = ks
  | [], d, ps, h => by unfold partsOf at h; split at h <;> simp at h; subst h; rfl
  | k :: ks, d, ps, h => by
    unfold partsOf at h
    cases hs : kindSize k d with
    | none => rw [hs] at h; cases h
    | some n =>
      rw [hs] at h
      simp only [Option.map_eq_some_iff] at h
      obtain ⟨r, hr, rfl⟩ := h
      simp [parts_kinds ks _ r hr]
theorem parts_unknown (d : ByteArray) : partsOf [.unknown] d = some [(.unknown, d)] := by
  unfold partsOf
  show ((partsOf [] (d.extract d.size d.size)).map ((Kind.unknown, d.extract 0 d.size) :: ·)) = _
  unfold partsOf
  rw [if_pos (by rw [size_extract' _ _ _ (Nat.le_refl _)]; omega), extract_self]
  rfl

end Go.Proofs.Ytinnmfidnecncaa
