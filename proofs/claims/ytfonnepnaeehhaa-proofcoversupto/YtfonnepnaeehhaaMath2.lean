import Derived.Test.YtfonnepnaeehhaaMath
namespace Go.Proofs.Ytfonnepnaeehhaa.Nm
set_option linter.unusedVariables false

/-- small letters -/
def lowN (x : Nat) : Nat := if 65 ≤ x ∧ x ≤ 90 then x + 32 else x
def lowU (b : UInt8) : UInt8 := if 65 ≤ b.toNat ∧ b.toNat ≤ 90 then b + 32 else b
def lowB (s : ByteArray) : ByteArray := ⟨s.data.map lowU⟩
theorem lowU_toNat (b : UInt8) : (lowU b).toNat = lowN b.toNat := by
  unfold lowU lowN
  split
  · rename_i h; rw [UInt8.toNat_add]; simp; omega
  · rfl
theorem lowB_size (s : ByteArray) : (lowB s).size = s.size := Array.size_map
theorem lowB_bt (s : ByteArray) (j : Nat) : bt (lowB s) j = lowN (bt s j) := by
  have hz := lowB_size s
  unfold bt
  by_cases h : j < s.size
  · rw [dif_pos (by omega), dif_pos h]
    have : (lowB s)[j]'(by omega) = lowU (s[j]) := by
      show (s.data.map lowU)[j]'_ = lowU (s.data[j]'_)
      exact Array.getElem_map ..
    rw [this, lowU_toNat]
  · rw [dif_neg (by omega), dif_neg h]; rfl
theorem lowN_lt {x : Nat} (h : x < 256) : lowN x < 256 := by unfold lowN; split <;> omega
theorem ba_ext {s t : ByteArray} (hz : s.size = t.size) (h : ∀ j, j < s.size → bt s j = bt t j) : s = t := by
  apply ByteArray.ext
  apply Array.ext hz
  intro j h1 h2
  have h1' : j < s.size := h1
  have h2' : j < t.size := h2
  have := h j h1'
  rw [← bt_eq h1', ← bt_eq h2'] at this
  exact UInt8.toNat_inj.1 this

end Go.Proofs.Ytfonnepnaeehhaa.Nm
