import Derived.Test.YtfonnepnaeehhaaMath4
namespace Go.Proofs.Ytfonnepnaeehhaa.Nm
set_option linter.unusedVariables false

def cntI (s : ByteArray) : Int := if isN s = true then ((labs s).length : Nat) else -1
theorem cntI_yes {s : ByteArray} (h : isN s = true) : cntI s = ((labs s).length : Nat) := by simp [cntI, h]
theorem cntI_no {s : ByteArray} (h : isN s = false) : cntI s = -1 := by simp [cntI, h]
theorem labs_len (s : ByteArray) : (labs s).length = (rest s 0).length := by simp [labs, labsFrom]
theorem labs_len_le {s : ByteArray} (h : isN s = true) : (labs s).length ≤ 254 := by
  have h1 := chunks_len (labs s)
  have h2 := putB_size (labs s)
  rw [putB_labs h] at h2
  have := ((isN_iff s).1 h).1
  omega

/-- the last k labels' name -/
def tailB (s : ByteArray) (k : Int) : ByteArray := if isN s = true ∧ 0 ≤ k ∧ k ≤ (labs s).length then putB ((labs s).drop ((labs s).length - k.toNat)) else ByteArray.empty

/-- a part of the labels ahead: what is left is the labels from the next place on -/
theorem rest_drop (s : ByteArray) : ∀ (pre : List (Lab s)) (i : Nat) (post : List (Lab s)), rest s i = pre ++ post → ∃ j, i ≤ j ∧ post = rest s j ∧ fin s i = fin s j ∧ (i ≤ s.size → j ≤ s.size)
  | [], i, post, h => ⟨i, Nat.le_refl _, by simpa using h.symm, rfl, id⟩
  | x :: pre, i, post, h => by
    by_cases hg : GoodL s i
    · rw [rest_good hg] at h
      have h2 : rest s (i + 1 + bt s i) = pre ++ post := by simpa using (List.cons.inj h).2
      obtain ⟨j, h3, h4, h5, h6⟩ := rest_drop s pre _ post h2
      have := hg.room
      exact ⟨j, by omega, h4, by rw [fin_good hg]; exact h5, fun _ => h6 (by omega)⟩
    · rw [rest_bad hg] at h; cases h
theorem rest_head {s : ByteArray} {i : Nat} {x : Lab s} {post : List (Lab s)} (h : rest s i = x :: post) : x.1.1 = i := by
  by_cases hg : GoodL s i
  · rw [rest_good hg] at h
    have := (List.cons.inj h).1
    rw [← this]; rfl
  · rw [rest_bad hg] at h; cases h
/-- from a label's place on: the name of the labels from there -/
theorem extract_tail {s : ByteArray} (hN : isN s = true) {j : Nat} (hj : j ≤ s.size) (hf : fin s 0 = fin s j) : s.extract j s.size = putB (labsFrom s j) := by
  obtain ⟨h1, h2, h3⟩ := (isN_iff s).1 hN
  have hc := chunks_labsFrom s s.size j (by omega) hj
  have hb := fin_bounds s s.size j (by omega) hj
  unfold putB
  rw [hc, ← extract_join s j (fin s j) s.size (by omega) (by omega) (Nat.le_refl _)]
  congr 1
  rw [← hf] at hb ⊢
  apply ba_ext
  · rw [size_extract' _ _ _ (Nat.le_refl _)]; show _ = 1; omega
  · intro k hk
    rw [size_extract' _ _ _ (Nat.le_refl _)] at hk
    have : k = 0 := by omega
    subst this
    rw [bt_extract _ _ _ _ (by omega) (Nat.le_refl _), Nat.add_zero, h3]; rfl
/-- the place of label number d, and what stands from it on -/
theorem tail_at {s : ByteArray} (hN : isN s = true) {pre : List (Lab s)} {x : Lab s} (h : pre ++ [x] <+: rest s 0) : s.extract x.1.1 s.size = putB ((labs s).drop pre.length) := by
  obtain ⟨post, hp⟩ := h
  rw [List.append_assoc] at hp
  obtain ⟨j, _, h4, h5, h6⟩ := rest_drop s pre 0 _ hp.symm
  have hx : x.1.1 = j := rest_head h4.symm
  rw [hx, extract_tail hN (h6 (by omega)) h5]
  congr 1
  unfold labs labsFrom
  rw [← hp, ← h4]
  simp
theorem labs_nil_putB : putB [] = ⟨#[0]⟩ := by
  unfold putB
  rw [show chunks [] = ByteArray.empty from rfl, ByteArray.empty_append]
end Go.Proofs.Ytfonnepnaeehhaa.Nm
