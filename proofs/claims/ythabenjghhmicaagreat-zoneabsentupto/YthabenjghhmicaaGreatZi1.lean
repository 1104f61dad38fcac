import Derived.Test.YthabenjghhmicaaGreatZgpG
/-
  What is said to be absent is absent, plainly. (The verifier's own text.)
-/
namespace Go.Proofs.YthabenjghhmicaaGreat
set_option linter.unusedVariables false
set_option linter.unusedSimpArgs false
open Go.RowKit Go.Shelf Go.Maps Go.Proofs.YthabenjghhmicaaGreat.Nm Go.Proofs.YthabenjghhmicaaGreat.Zs

theorem rth_no {T : List Rn} {n : ByteArray} (h : rth T n = false) {x : Rn} (hx : x ∈ T) (hc : countB x = true) : withinB x.o n = false := by
  unfold rth at h
  rw [List.any_eq_false] at h
  have := h x hx
  rw [hc, Bool.true_and] at this
  simpa using this
theorem within_emptyZ (n : ByteArray) : withinB n ByteArray.empty = false := by
  cases h : withinB n ByteArray.empty with
  | false => rfl
  | true => exact absurd ((withinB_iff n _).1 h).2.1 (by decide)
/-- the longest name above one that is there -/
theorem renc_max {apex : ByteArray} {T : List Rn} {q : ByteArray} (hq : withinB q apex = true) (hap : rth T apex = true) :
    ∃ k : Nat, (labs apex).length ≤ k ∧ k ≤ (labs q).length ∧ renc T q = tailB q (k : Int) ∧ rth T (tailB q (k : Int)) = true ∧ ∀ m : Nat, k < m → m ≤ (labs q).length → rth T (tailB q (m : Int)) = false := by
  obtain ⟨g1, g2, g3, g4⟩ := (withinB_iff q apex).1 hq
  have hr := rth_apex hq hap
  obtain ⟨ke, k1, k2, k3⟩ := last_of (fun k => rth T (tailB q (k : Int))) (labs apex).length hr (labs q).length g3
  have hk : (labs apex).length ≤ ke := by
    rcases Nat.lt_or_ge ke (labs apex).length with hc | hc
    · have := k3 _ hc g3
      rw [hr] at this; cases this
    · exact hc
  exact ⟨ke, hk, k1, renc_at k1 k2 k3, k2, k3⟩
theorem rlvK_val (M : List Rn) (q : ByteArray) (t : Int) (k : Nat) : rlvK M q t k = 0 ∨ rlvK M q t k = 3 ∨ rlvK M q t k = 4 := by
  unfold rlvK
  split
  · exact Or.inr (Or.inr rfl)
  · split
    · exact Or.inr (Or.inl rfl)
    · exact Or.inl rfl
theorem rlv_val (apex : ByteArray) (M : List Rn) (q : ByteArray) (t : Int) : (rlvB apex M q t).1 = 0 ∨ (rlvB apex M q t).1 = 3 ∨ (rlvB apex M q t).1 = 4 := by
  unfold rlvB
  split
  · exact rlvK_val ..
  · exact Or.inl rfl
theorem rst_val (M : List Rn) (n : ByteArray) (t : Int) : (rstand M n t).1 = 1 ∨ (rstand M n t).1 = 2 ∨ (rstand M n t).1 = 5 := by
  unfold rstand
  split
  · exact Or.inr (Or.inl rfl)
  · split
    · exact Or.inr (Or.inr rfl)
    · exact Or.inl rfl
theorem rst_five {M : List Rn} {n : ByteArray} {t : Int} (h : (rstand M n t).1 = 5) : M.filter (stP n t) = [] := by
  unfold rstand at h
  split at h
  · simp at h
  · split at h
    · rename_i he
      exact List.isEmpty_iff.1 he
    · simp at h
/-- what is said to be absent -/
structure AbsP (T : List Rn) (q : ByteArray) (t : Int) (F : Fd) : Prop where
  k6 : F.k = 6 → F.w = false ∧ ∀ x ∈ T, countB x = true → withinB x.o q = false ∧ withinB x.o (starB F.e) = false
  k5 : F.k = 5 → F.w = false → ∀ x ∈ T, countB x = true → eqB x.o q = true → x.t ≠ t ∧ t ≠ 255
  wi : F.w = true → F.k ≠ 6 ∧ ∀ x ∈ T, countB x = true → withinB x.o q = false ∧ withinB x.o (tailB q (cntI F.e + 1)) = false
  sz : F.k = 6 ∨ F.w = true → F.e.size ≤ 255
theorem cnt_tail {q : ByteArray} {k : Nat} (hq : isN q = true) (hk : k ≤ (labs q).length) : cntI (tailB q (k : Int)) = (k : Int) := by
  obtain ⟨t1, t2, _⟩ := tailB_yes hq hk
  rw [cntI_yes t1, t2, List.length_drop]
  omega
theorem absP {apex : ByteArray} {T : List Rn} (hap : rth T apex = true) (q : ByteArray) (t : Int) : AbsP T q t (rfind apex T q t) := by
  by_cases hin : withinB q apex = true ∧ 1 ≤ t ∧ t ≤ 65535
  · obtain ⟨hq, ht1, ht2⟩ := hin
    obtain ⟨g1, g2, g3, g4⟩ := (withinB_iff q apex).1 hq
    obtain ⟨ke, e1, e2, e3, e4, e5⟩ := renc_max hq hap
    rw [rfind_in hq ht1 ht2]
    split
    · rename_i hne
      have hv := rlv_val apex T q t
      refine ⟨fun h => ?_, fun h => ?_, fun h => ?_, fun h => ?_⟩
      · simp only at h; omega
      · simp only at h; omega
      · simp at h
      · rcases h with h | h
        · simp only at h; omega
        · simp at h
    · split
      · have hv := rst_val T q t
        refine ⟨fun h => ?_, fun h _ => ?_, fun h => ?_, fun h => ?_⟩
        · simp only at h; omega
        · simp only at h
          have hf := rst_five h
          intro x hx hc he
          rw [List.filter_eq_nil_iff] at hf
          have := hf x hx
          unfold stP at this
          rw [he, hc] at this
          simp at this
          exact this
        · simp at h
        · rcases h with h | h
          · simp only at h; omega
          · simp at h
      · rename_i hth
        have hth' : rth T q = false := by simpa using hth
        split
        · have hv := rst_val T (starB (renc T q)) t
          refine ⟨fun h => ?_, fun _ h => ?_, fun _ => ⟨?_, fun x hx hc => ⟨rth_no hth' hx hc, ?_⟩⟩, fun _ => ?_⟩
          · simp only at h; omega
          · simp at h
          · simp only; omega
          · simp only
            rw [e3, cnt_tail g1 e2]
            rcases Nat.lt_or_ge ke (labs q).length with hl | hl
            · exact rth_no (by have := e5 (ke + 1) (by omega) (by omega); rw [show ((ke + 1 : Nat) : Int) = (ke : Int) + 1 by omega] at this; exact this) hx hc
            · rw [tailB_no (fun h => by have := h.2.2; omega)]
              exact within_emptyZ _
          · simp only
            rw [e3]; exact tailB_size _ _
        · rename_i hst
          have hst' : rth T (starB (renc T q)) = false := by simpa using hst
          refine ⟨fun _ => ⟨rfl, fun x hx hc => ⟨rth_no hth' hx hc, rth_no hst' hx hc⟩⟩, fun h => ?_, fun h => ?_, fun _ => ?_⟩
          · simp at h
          · simp at h
          · simp only
            rw [e3]; exact tailB_size _ _
  · have e : rfind apex T q t = noFd := by unfold rfind; rw [if_neg hin]
    rw [e]
    refine ⟨fun h => ?_, fun h => ?_, fun h => ?_, fun h => ?_⟩
    · simp [noFd] at h
    · simp [noFd] at h
    · simp [noFd] at h
    · simp [noFd] at h
end Go.Proofs.YthabenjghhmicaaGreat
