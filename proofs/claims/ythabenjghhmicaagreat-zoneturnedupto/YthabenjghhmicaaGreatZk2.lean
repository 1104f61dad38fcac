import Derived.Test.YthabenjghhmicaaGreatZk1
import Derived.Test.YthabenjghhmicaaGreatZgpG
/-
  A zone's names rise, plainly. (The verifier's own text.)
-/
namespace Go.Proofs.YthabenjghhmicaaGreat
set_option linter.unusedVariables false
set_option linter.unusedSimpArgs false
open Go.RowKit Go.Shelf Go.Maps Go.Proofs.YthabenjghhmicaaGreat.Nm Go.Proofs.YthabenjghhmicaaGreat.Zs

theorem unq_good : ∀ (n : Nat) (X : List ByteArray), X.length = n → (∀ A y B, X = A ++ y :: B → y ∉ A → ∀ z ∈ A, cmpB z y < 0) → (unq X).Pairwise (fun a b => cmpB a b < 0)
  | 0, X, hn, _ => by
    obtain rfl : X = [] := List.eq_nil_of_length_eq_zero hn
    exact List.Pairwise.nil
  | n + 1, X, hn, h => by
    have hne : X ≠ [] := fun e => by rw [e] at hn; simp at hn
    obtain ⟨A, y, rfl⟩ : ∃ A y, X = A ++ [y] := ⟨X.dropLast, X.getLast hne, (List.dropLast_concat_getLast hne).symm⟩
    have ih := unq_good n A (by simpa using hn) (fun A' y' B e hy z hz => h A' y' (B ++ [y]) (by rw [e]; simp) hy z hz)
    rw [unq_snoc]
    split
    · exact ih
    · rename_i hm
      have hy : y ∉ A := fun hc => hm ((memB_iff _ _).2 ((mem_unq A y).2 hc))
      rw [List.pairwise_append]
      refine ⟨ih, by simp, fun z hz w hw => ?_⟩
      have hw' : w = y := by simpa using hw
      subst hw'
      exact h A w [] (by simp) hy z ((mem_unq A z).1 hz)
theorem flat_split {α β : Type} (g : α → List β) : ∀ (T : List α) (A : List β) (y : β) (B : List β), T.flatMap g = A ++ y :: B → ∃ T1 r T2 P1 P2, T = T1 ++ r :: T2 ∧ g r = P1 ++ y :: P2 ∧ A = T1.flatMap g ++ P1
  | [], A, y, B, h => by simp at h
  | r :: T, A, y, B, h => by
    rw [List.flatMap_cons] at h
    rcases List.append_eq_append_iff.1 h with ⟨a', h1, h2⟩ | ⟨c', h1, h2⟩
    · obtain ⟨T1, r', T2, P1, P2, e1, e2, e3⟩ := flat_split g T a' y B h2
      exact ⟨r :: T1, r', T2, P1, P2, by rw [e1]; rfl, e2, by rw [h1, e3, List.flatMap_cons, List.append_assoc]⟩
    · cases c' with
      | nil =>
        rw [List.nil_append] at h2
        obtain ⟨T1, r', T2, P1, P2, e1, e2, e3⟩ := flat_split g T [] y B h2.symm
        refine ⟨r :: T1, r', T2, P1, P2, by rw [e1]; rfl, e2, ?_⟩
        rw [List.flatMap_cons, List.append_assoc, ← e3, List.append_nil, h1, List.append_nil]
      | cons x c' =>
        rw [List.cons_append] at h2
        injection h2 with h2 h3
        subst h2
        exact ⟨[], r, T, A, c', rfl, h1, by simp⟩
/-- which names are on the way down to a record's -/
theorem path_iff {apex : ByteArray} (na : isN apex = true) {o : ByteArray} (ho : withinB o apex = true) {n : ByteArray} (hn : withinB n apex = true) : foldB n ∈ pathL apex (foldB o) ↔ withinB o n = true := by
  obtain ⟨n1, n2, n3, n4⟩ := (withinB_iff n apex).1 hn
  obtain ⟨g1, g2, g3, g4⟩ := (withinB_iff o apex).1 ho
  rw [path_tails na ho, List.mem_map]
  constructor
  · rintro ⟨i, hi, he⟩
    rw [List.mem_range] at hi
    have t1 := (tailB_yes g1 (k := (labs apex).length + i) (by omega)).1
    exact within_some (k := (((labs apex).length + i : Nat) : Int)) (by rw [eq_dec t1]; exact decide_eq_true he)
  · intro hw
    obtain ⟨_, _, w3, w4⟩ := (withinB_iff o n).1 hw
    refine ⟨(labs n).length - (labs apex).length, by rw [List.mem_range]; omega, ?_⟩
    rw [show (labs apex).length + ((labs n).length - (labs apex).length) = (labs n).length by omega, fold_tail g1 w3, ← List.map_drop, w4, fold_put n1]
theorem path_in {apex : ByteArray} (na : isN apex = true) {o : ByteArray} (ho : withinB o apex = true) {y : ByteArray} (hy : y ∈ pathL apex (foldB o)) : InA apex y := by
  unfold pathL at hy
  rw [List.mem_reverse] at hy
  exact (ups_in na _ _ (inA_fold na ho) (Nat.le_refl _)).1 _ hy
theorem cmp_ne {a b : ByteArray} {apex : ByteArray} (ha : InA apex a) (hb : InA apex b) (hne : a ≠ b) (h : cmpB a b ≤ 0) : cmpB a b < 0 := by
  have o := ordered ha.nm hb.nm hb.nm
  have he := o.eq
  have h0 : cmpB a b ≠ 0 := fun e => by
    rw [decide_eq_true e] at he
    rw [eq_dec ha.nm, ha.fo, hb.fo] at he
    exact hne (of_decide_eq_true he)
  omega
theorem bef_cmp {x y : Rn} (h : befB x y = true) : cmpB x.o y.o ≤ 0 := by
  unfold befB at h
  by_cases e : cmpB x.o y.o ≠ 0
  · rw [if_pos e] at h
    have := of_decide_eq_true h
    omega
  · omega
/-- of two names on one way the upper one stands ahead -/
theorem path_pw {apex : ByteArray} (na : isN apex = true) {o : ByteArray} (ho : withinB o apex = true) {P1 P2 : List ByteArray} {y : ByteArray} (h : pathL apex (foldB o) = P1 ++ y :: P2) : ∀ z ∈ P1, withinB y z = true := by
  obtain ⟨g1, g2, g3, g4⟩ := (withinB_iff o apex).1 ho
  intro z hz
  obtain ⟨i, hi, rfl⟩ := List.getElem_of_mem hz
  have hp := path_tails na ho
  rw [h] at hp
  have hlen := congrArg List.length hp
  simp at hlen
  have e1 : P1[i] = foldB (tailB o (((labs apex).length + i : Nat) : Int)) := by
    have : (P1 ++ y :: P2)[i]? = some P1[i] := by rw [List.getElem?_append_left hi]; simp
    rw [hp, List.getElem?_map, List.getElem?_range (by omega)] at this
    simpa using this.symm
  have e2 : y = foldB (tailB o (((labs apex).length + P1.length : Nat) : Int)) := by
    have : (P1 ++ y :: P2)[P1.length]? = some y := by simp
    rw [hp, List.getElem?_map, List.getElem?_range (by omega)] at this
    simpa using this.symm
  obtain ⟨a1, a2, _⟩ := tailB_yes g1 (k := (labs apex).length + i) (by omega)
  obtain ⟨b1, b2, _⟩ := tailB_yes g1 (k := (labs apex).length + P1.length) (by omega)
  rw [e1, e2, withinB_iff]
  obtain ⟨x1, x2⟩ := zisN_fold a1
  obtain ⟨y1, y2⟩ := zisN_fold b1
  refine ⟨y1, x1, by rw [x2, y2, List.length_map, List.length_map, a2, b2, List.length_drop, List.length_drop]; omega, ?_⟩
  rw [x2, y2, a2, b2]
  simp only [List.length_map, List.length_drop]
  rw [← List.map_drop, List.drop_drop]
  congr 3
  omega
theorem namK_all (apex : ByteArray) (T : List Rn) : namK apex T T.length = T.flatMap fun r => if countB r = true then pathL apex (foldB r.o) else [] := by
  unfold namK
  rw [List.take_length]
/-- the names rise -/
theorem names_rise {apex : ByteArray} {T : List Rn} (na : isN apex = true) (h : OwnIn apex T) (hT : T.Pairwise (fun x y => befB x y = true)) : (namL apex T).Pairwise (fun a b => cmpB a b < 0) := by
  unfold namL
  rw [namK_all]
  refine unq_good _ _ rfl ?_
  intro A y B hX hy z hz
  obtain ⟨T1, r, T2, P1, P2, e1, e2, e3⟩ := flat_split _ T A y B hX
  have hr : r ∈ T := by rw [e1]; simp
  have hc : countB r = true := by
    cases hc : countB r with
    | true => rfl
    | false => rw [hc] at e2; simp at e2
  rw [hc] at e2
  simp only [if_true] at e2
  have hyp : y ∈ pathL apex (foldB r.o) := by rw [e2]; simp
  have yI := path_in na (h r hr) hyp
  have yw : withinB r.o y = true := (path_iff na (h r hr) yI.wi).1 (by rw [yI.fo]; exact hyp)
  rw [e3] at hz
  rcases List.mem_append.1 hz with hz | hz
  · obtain ⟨r', hr', hz2⟩ := List.mem_flatMap.1 hz
    have hc' : countB r' = true := by
      cases hc : countB r' with
      | true => rfl
      | false => rw [hc] at hz2; simp at hz2
    rw [hc'] at hz2
    simp only [if_true] at hz2
    have hrT : r' ∈ T := by rw [e1]; exact List.mem_append.2 (Or.inl hr')
    have zI := path_in na (h r' hrT) hz2
    have zw : withinB r'.o z = true := (path_iff na (h r' hrT) zI.wi).1 (by rw [zI.fo]; exact hz2)
    have hny : ¬ withinB r'.o y = true := fun hc2 => hy (by
      have := (path_iff na (h r' hrT) yI.wi).2 hc2
      rw [yI.fo] at this
      rw [e3]
      exact List.mem_append.2 (Or.inl (List.mem_flatMap.2 ⟨r', hr', by rw [if_pos hc']; exact this⟩)))
    have hle : cmpB r'.o r.o ≤ 0 := by
      rw [e1] at hT
      exact bef_cmp ((List.pairwise_append.1 hT).2.2 r' hr' r (by simp))
    have n1 := h.nm hrT
    have n2 := h.nm hr
    have o1 := ordered yI.nm n1 n2
    have o2 := ordered zI.nm n1 yI.nm
    have h3 : ¬ cmpB y r'.o ≤ 0 := fun hc3 => hny (o1.w2 hc3 hle yw)
    have h4 := o1.anti
    exact o2.t2 (o2.w1 zw) (by omega)
  · have hyz := path_pw na (h r hr) e2 z hz
    have zI := path_in na (h r hr) (by rw [e2]; exact List.mem_append.2 (Or.inl hz))
    refine cmp_ne zI yI (fun e => hy ?_) ((ordered zI.nm yI.nm yI.nm).w1 hyz)
    rw [e3, ← e]
    exact List.mem_append.2 (Or.inr hz)
theorem namL_mem {apex : ByteArray} {T : List Rn} (na : isN apex = true) (h : OwnIn apex T) (y : ByteArray) : y ∈ namL apex T ↔ InA apex y ∧ rth T y = true := by
  unfold namL
  rw [mem_unq, namK_all, List.mem_flatMap]
  constructor
  · rintro ⟨r, hr, h2⟩
    cases hc : countB r with
    | false => rw [hc] at h2; simp at h2
    | true =>
      rw [hc] at h2
      simp only [if_true] at h2
      have yI := path_in na (h r hr) h2
      refine ⟨yI, ?_⟩
      unfold rth
      rw [List.any_eq_true]
      exact ⟨r, hr, by rw [hc, (path_iff na (h r hr) yI.wi).1 (by rw [yI.fo]; exact h2)]; rfl⟩
  · rintro ⟨yI, h2⟩
    unfold rth at h2
    rw [List.any_eq_true] at h2
    obtain ⟨r, hr, h3⟩ := h2
    rw [Bool.and_eq_true] at h3
    refine ⟨r, hr, ?_⟩
    rw [if_pos h3.1]
    have := (path_iff na (h r hr) yI.wi).2 h3.2
    rw [yI.fo] at this
    exact this
/-- the apex is the first -/
theorem names_first {apex : ByteArray} {T : List Rn} (na : isN apex = true) (h : OwnIn apex T) (hT : T.Pairwise (fun x y => befB x y = true)) (hap : rth T apex = true) : ∃ l, namL apex T = foldB apex :: l := by
  have hw : withinB apex apex = true := by
    rw [withinB_iff]
    exact ⟨na, na, Nat.le_refl _, by rw [Nat.sub_self, List.drop_zero]⟩
  have aI := inA_fold na hw
  have hra : rth T (foldB apex) = true := by
    unfold rth at hap ⊢
    rw [List.any_eq_true] at hap ⊢
    obtain ⟨r, hr, h3⟩ := hap
    rw [Bool.and_eq_true] at h3
    exact ⟨r, hr, by rw [h3.1, zwithin_fold (h.nm hr) na, h3.2]; rfl⟩
  have hm := (namL_mem na h (foldB apex)).2 ⟨aI, hra⟩
  have hp := names_rise na h hT
  cases hl : namL apex T with
  | nil => rw [hl] at hm; cases hm
  | cons x l =>
    rw [hl] at hm hp
    rcases List.mem_cons.1 hm with e | e
    · exact ⟨l, by rw [e]⟩
    · exfalso
      have h1 := (List.pairwise_cons.1 hp).1 _ e
      have xI := ((namL_mem na h x).1 (by rw [hl]; simp)).1
      have o := ordered aI.nm xI.nm xI.nm
      have hwx : withinB x (foldB apex) = true := by rw [zwithin_fold xI.nm na]; exact xI.wi
      have h2 := o.w1 hwx
      have h3 := o.anti
      omega
end Go.Proofs.YthabenjghhmicaaGreat
