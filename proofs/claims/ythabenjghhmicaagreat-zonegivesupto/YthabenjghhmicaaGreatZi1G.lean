import Derived.Test.YthabenjghhmicaaGreatZgpG
/-
  What is said to be absent is absent, plainly. (The verifier's own text.)
-/
namespace Go.Proofs.YthabenjghhmicaaGreat
set_option linter.unusedVariables false
set_option linter.unusedSimpArgs false
open Go.RowKit Go.Shelf Go.Maps Go.Proofs.YthabenjghhmicaaGreat.Nm Go.Proofs.YthabenjghhmicaaGreat.Zs

theorem rth_no {T : List Rn} {n : ByteArray} (h : rth T n = false) {x : Rn} (hx : x ∈ T) (hc : countB x = true) : withinB x.o n = false := by
  unfold rth at h
  rw [List.any_eq_false] at h
  have := h x hx
  rw [hc, Bool.true_and] at this
  simpa using this
theorem within_emptyZ (n : ByteArray) : withinB n ByteArray.empty = false := by
  cases h : withinB n ByteArray.empty with
  | false => rfl
  | true => exact absurd ((withinB_iff n _).1 h).2.1 (by decide)
/-- the longest name above one that is there -/
theorem renc_max {apex : ByteArray} {T : List Rn} {q : ByteArray} (hq : withinB q apex = true) (hap : rth T apex = true) :
    ∃ k : Nat, (labs apex).length ≤ k ∧ k ≤ (labs q).length ∧ renc T q = tailB q (k : Int) ∧ rth T (tailB q (k : Int)) = true ∧ ∀ m : Nat, k < m → m ≤ (labs q).length → rth T (tailB q (m : Int)) = false := by
  obtain ⟨g1, g2, g3, g4⟩ := (withinB_iff q apex).1 hq
  have hr := rth_apex hq hap
  obtain ⟨ke, k1, k2, k3⟩ := last_of (fun k => rth T (tailB q (k : Int))) (labs apex).length hr (labs q).length g3
  have hk : (labs apex).length ≤ ke := by
    rcases Nat.lt_or_ge ke (labs apex).length with hc | hc
    · have := k3 _ hc g3
      rw [hr] at this; cases this
    · exact hc
  exact ⟨ke, hk, k1, renc_at k1 k2 k3, k2, k3⟩
theorem rlvK_val (M : List Rn) (q : ByteArray) (t : Int) (k : Nat) : rlvK M q t k = 0 ∨ rlvK M q t k = 3 ∨ rlvK M q t k = 4 := by
  unfold rlvK
  split
  · exact Or.inr (Or.inr rfl)
  · split
    · exact Or.inr (Or.inl rfl)
    · exact Or.inl rfl
theorem rlv_val (apex : ByteArray) (M : List Rn) (q : ByteArray) (t : Int) : (rlvB apex M q t).1 = 0 ∨ (rlvB apex M q t).1 = 3 ∨ (rlvB apex M q t).1 = 4 := by
  unfold rlvB
  split
  · exact rlvK_val ..
  · exact Or.inl rfl
theorem rst_val (M : List Rn) (n : ByteArray) (t : Int) : (rstand M n t).1 = 1 ∨ (rstand M n t).1 = 2 ∨ (rstand M n t).1 = 5 := by
  unfold rstand
  split
  · exact Or.inr (Or.inl rfl)
  · split
    · exact Or.inr (Or.inr rfl)
    · exact Or.inl rfl
theorem rst_five {M : List Rn} {n : ByteArray} {t : Int} (h : (rstand M n t).1 = 5) : M.filter (stP n t) = [] := by
  unfold rstand at h
  split at h
  · simp at h
  · split at h
    · rename_i he
      exact List.isEmpty_iff.1 he
    · simp at h
/-- what is said to be absent -/
structure AbsP (T : List Rn) (q : ByteArray) (t : Int) (F : Fd) : Prop where
  k6 : F.k = 6 → F.w = false ∧ ∀ x ∈ T, countB x = true → withinB x.o q = false ∧ withinB x.o (starB F.e) = false
  k5 : F.k = 5 → F.w = false → ∀ x ∈ T, countB x = true → eqB x.o q = true → x.t ≠ t ∧ t ≠ 255
  wi : F.w = true → F.k ≠ 6 ∧ ∀ x ∈ T, countB x = true → withinB x.o q = false ∧ withinB x.o (tailB q (cntI F.e + 1)) = false
  sz : F.k = 6 ∨ F.w = true → F.e.size ≤ 255
theorem cnt_tail {q : ByteArray} {k : Nat} (hq : isN q = true) (hk : k ≤ (labs q).length) : cntI (tailB q (k : Int)) = (k : Int) := by
  obtain ⟨t1, t2, _⟩ := tailB_yes hq hk
  rw [cntI_yes t1, t2, List.length_drop]
  omega
theorem absP {apex : ByteArray} {T : List Rn} (hap : rth T apex = true) (q : ByteArray) (t : Int) : AbsP T q t (rfind apex T q t) := by
  by_cases hin : withinB q apex = true ∧ 1 ≤ t ∧ t ≤ 65535
  · obtain ⟨hq, ht1, ht2⟩ := hin
    obtain ⟨g1, g2, g3, g4⟩ := (withinB_iff q apex).1 hq
    obtain ⟨ke, e1, e2, e3, e4, e5⟩ := renc_max hq hap
    rw [rfind_in hq ht1 ht2]
    split
    · rename_i hne
      have hv := rlv_val apex T q t
      refine ⟨fun h => ?_, fun h => ?_, fun h => ?_, fun h => ?_⟩
      · simp only at h; omega
      · simp only at h; omega
      · simp at h
      · rcases h with h | h
        · simp only at h; omega
        · simp at h
    · split
      · have hv := rst_val T q t
        refine ⟨fun h => ?_, fun h _ => ?_, fun h => ?_, fun h => ?_⟩
        · simp only at h; omega
        · simp only at h
          have hf := rst_five h
          intro x hx hc he
          rw [List.filter_eq_nil_iff] at hf
          have := hf x hx
          unfold stP at this
          rw [he, hc] at this
          simp at this
          exact this
        · simp at h
        · rcases h with h | h
          · simp only at h; omega
          · simp at h
      · rename_i hth
        have hth' : rth T q = false := by simpa using hth
        split
        · have hv := rst_val T (starB (renc T q)) t
          refine ⟨fun h => ?_, fun _ h => ?_, fun _ => ⟨?_, fun x hx hc => ⟨rth_no hth' hx hc, ?_⟩⟩, fun _ => ?_⟩
          · simp only at h; omega
          · simp at h
          · simp only; omega
          · simp only
            rw [e3, cnt_tail g1 e2]
            rcases Nat.lt_or_ge ke (labs q).length with hl | hl
            · exact rth_no (by have := e5 (ke + 1) (by omega) (by omega); rw [show ((ke + 1 : Nat) : Int) = (ke : Int) + 1 by omega] at this; exact this) hx hc
            · rw [tailB_no (fun h => by have := h.2.2; omega)]
              exact within_emptyZ _
          · simp only
            rw [e3]; exact tailB_size _ _
        · rename_i hst
          have hst' : rth T (starB (renc T q)) = false := by simpa using hst
          refine ⟨fun _ => ⟨rfl, fun x hx hc => ⟨rth_no hth' hx hc, rth_no hst' hx hc⟩⟩, fun h => ?_, fun h => ?_, fun _ => ?_⟩
          · simp at h
          · simp at h
          · simp only
            rw [e3]; exact tailB_size _ _
  · have e : rfind apex T q t = noFd := by unfold rfind; rw [if_neg hin]
    rw [e]
    refine ⟨fun h => ?_, fun h => ?_, fun h => ?_, fun h => ?_⟩
    · simp [noFd] at h
    · simp [noFd] at h
    · simp [noFd] at h
    · simp [noFd] at h
end Go.Proofs.YthabenjghhmicaaGreat

/-
  What stands in a zone is found, and what is found stands there, plainly. (The verifier's own text.)
-/
namespace Go.Proofs.YthabenjghhmicaaGreat
set_option linter.unusedVariables false
set_option linter.unusedSimpArgs false
open Go.RowKit Go.Shelf Go.Maps Go.Proofs.YthabenjghhmicaaGreat.Nm Go.Proofs.YthabenjghhmicaaGreat.Zs

theorem within_self {n : ByteArray} (h : isN n = true) : withinB n n = true := by
  rw [withinB_iff]
  exact ⟨h, h, Nat.le_refl _, by rw [Nat.sub_self, List.drop_zero]⟩
theorem eq_self {n : ByteArray} (h : isN n = true) : eqB n n = true := by
  rw [eqB_iff]; exact ⟨h, h, rfl⟩
theorem within_of_eq {a b : ByteArray} (h : eqB a b = true) : withinB b a = true := by
  obtain ⟨h1, h2, h3⟩ := (eqB_iff a b).1 h
  have hl : (labs a).length = (labs b).length := by have := congrArg List.length h3; simpa using this
  rw [withinB_iff]
  exact ⟨h2, h1, by omega, by rw [hl, Nat.sub_self, List.drop_zero, h3]⟩
/-- a name above q is one that q is within -/
theorem within_of_tail {a q : ByteArray} {k : Nat} (hq : isN q = true) (hk : k ≤ (labs q).length) (h : eqB a (tailB q (k : Int)) = true) : withinB q a = true := by
  obtain ⟨h1, h2, h3⟩ := (eqB_iff a _).1 h
  obtain ⟨t1, t2, t3⟩ := tailB_yes hq hk
  rw [t2] at h3
  have hl : (labs a).length = k := by have := congrArg List.length h3; simp at this; omega
  rw [withinB_iff]
  refine ⟨hq, h1, by omega, ?_⟩
  rw [hl, h3]
/-- is a record among those? -/
def recB (x y : Rn) : Bool := decide (x.o = y.o) && decide (x.t = y.t) && decide (x.c = y.c) && decide (x.l = y.l) && decide (x.d = y.d)
theorem recB_iff (x y : Rn) : recB x y = true ↔ x = y := by
  obtain ⟨a, b, c, d, e⟩ := x
  obtain ⟨a', b', c', d', e'⟩ := y
  simp [recB, and_assoc]
/-- what is found of a record -/
theorem gives_one {apex : ByteArray} {T : List Rn} (h : OwnIn apex T) (hok : okL T) (h8 : ∀ x ∈ T, ∀ y ∈ T, x.t = 5 → x ≠ y → eqB y.o x.o = true → othB y = false) {x : Rn} (hx : x ∈ T) (hc : countB x = true) (h3 : (rfind apex T x.o x.t).k ≠ 3) (h4 : (rfind apex T x.o x.t).k ≠ 4) (h2 : ¬ ((rfind apex T x.o x.t).k = 2 ∧ (x.t = 46 ∨ x.t = 47))) :
    (rfind apex T x.o x.t).k = 1 ∧ (rfind apex T x.o x.t).w = false ∧ x ∈ (rfind apex T x.o x.t).r := by
  obtain ⟨hn, _, _, _, _, ht1, ht2, _⟩ := ok_facts (hok x hx)
  have hw := h x hx
  rw [rfind_in hw ht1 ht2] at h2 h3 h4 ⊢
  have hth : rth T x.o = true := by
    unfold rth
    rw [List.any_eq_true]
    exact ⟨x, hx, by rw [hc, within_self hn]; rfl⟩
  by_cases hl : (rlvB apex T x.o x.t).1 ≠ 0
  · exfalso
    rw [if_pos hl] at h3 h4
    have := rlv_val apex T x.o x.t
    simp only at h3 h4
    omega
  · rw [if_neg hl, if_pos hth] at h2 h3 h4 ⊢
    simp only at h2 ⊢
    have hin : x ∈ T.filter (stP x.o x.t) := by
      rw [List.mem_filter]
      refine ⟨hx, ?_⟩
      unfold stP
      rw [eq_self hn]
      simp
    have he : (T.filter (stP x.o x.t)).isEmpty = false := by
      cases hf : T.filter (stP x.o x.t) with
      | nil => rw [hf] at hin; cases hin
      | cons => rfl
    unfold rstand at h2 ⊢
    by_cases hal : (rset T x.o 5).isEmpty = false ∧ x.t ≠ 5 ∧ x.t ≠ 255
    · exfalso
      rw [if_pos hal] at h2
      simp only [true_and] at h2
      cases hr : rset T x.o 5 with
      | nil => rw [hr] at hal; simp at hal
      | cons y l =>
        have hy : y ∈ rset T x.o 5 := by rw [hr]; exact List.mem_cons_self ..
        unfold rset at hy
        rw [List.mem_filter] at hy
        unfold setP at hy
        rw [Bool.and_eq_true] at hy
        have hyt := of_decide_eq_true hy.2.1
        have ho := h8 y hy.1 x hx hyt (fun e => hal.2.1 (by rw [← e]; exact hyt)) (by
          rw [eqB_iff] at hy ⊢
          exact ⟨hy.2.2.2.1, hy.2.2.1, hy.2.2.2.2.symm⟩)
        exact absurd ho (by
          have h46 : x.t ≠ 46 := fun e => h2 (Or.inl e)
          have h47 : x.t ≠ 47 := fun e => h2 (Or.inr e)
          have h50 : x.t ≠ 50 := fun e => by unfold countB at hc; rw [decide_eq_true e] at hc; simp at hc
          simp [othB, h46, h47, h50])
    · rw [if_neg hal]
      simp only [he, Bool.false_eq_true, if_false]
      exact ⟨trivial, trivial, hin⟩
/-- what is found stands there -/
def thereB (L : List Rn) (q o : ByteArray) (wd : Bool) (y : Rn) : Prop := ∃ x ∈ L, (wd = true → eqB x.o o = true ∧ x.t = y.t ∧ x.d = y.d ∧ x.l = y.l ∧ y.o = q) ∧ (wd = false → x = y ∧ withinB q x.o = true)
theorem rst_mem {T : List Rn} {n : ByteArray} {t : Int} {y : Rn} (h : y ∈ (rstand T n t).2) : y ∈ T ∧ eqB y.o n = true := by
  unfold rstand at h
  split at h
  · simp only [rset] at h
    rw [List.mem_filter] at h
    unfold setP at h
    rw [Bool.and_eq_true] at h
    exact ⟨h.1, h.2.2⟩
  · split at h
    · cases h
    · rw [List.mem_filter] at h
      unfold stP at h
      rw [Bool.and_eq_true] at h
      exact ⟨h.1, h.2.1⟩
theorem gives_two {apex : ByteArray} {T : List Rn} (na : isN apex = true) (h : OwnIn apex T) (q : ByteArray) (t : Int) : ∀ y ∈ (rfind apex T q t).r, thereB T q (rfind apex T q t).o (rfind apex T q t).w y := by
  intro y hy
  by_cases hin : withinB q apex = true ∧ 1 ≤ t ∧ t ≤ 65535
  · obtain ⟨hq, ht1, ht2⟩ := hin
    obtain ⟨g1, g2, g3, g4⟩ := (withinB_iff q apex).1 hq
    rw [rfind_in hq ht1 ht2] at hy ⊢
    split at hy
    · rename_i hl
      rw [if_pos hl]
      rcases lv_both na h t hq with ⟨k, hk, hz, r1, r2⟩ | ⟨r1, r2⟩
      · rw [r1] at hy
        simp only [rset] at hy
        rw [List.mem_filter] at hy
        unfold setP at hy
        rw [Bool.and_eq_true] at hy
        exact ⟨y, hy.1, fun e => by simp at e, fun _ => ⟨rfl, within_of_tail g1 hk hy.2.2⟩⟩
      · rw [r1] at hl; simp at hl
    · rename_i hl
      rw [if_neg hl]
      split at hy
      · rename_i hth
        rw [if_pos hth]
        obtain ⟨m1, m2⟩ := rst_mem hy
        exact ⟨y, m1, fun e => by simp at e, fun _ => ⟨rfl, within_of_eq m2⟩⟩
      · rename_i hth
        rw [if_neg hth]
        split at hy
        · rename_i hst
          rw [if_pos hst]
          simp only at hy
          rw [List.mem_map] at hy
          obtain ⟨x, hx, rfl⟩ := hy
          obtain ⟨m1, m2⟩ := rst_mem hx
          exact ⟨x, m1, fun _ => ⟨m2, rfl, rfl, rfl, rfl⟩, fun e => by simp at e⟩
        · simp at hy
  · have e : rfind apex T q t = noFd := by unfold rfind; rw [if_neg hin]
    rw [e] at hy
    simp [noFd] at hy
end Go.Proofs.YthabenjghhmicaaGreat
